/-
  l1Own and l12Partners of the model.
-/
import Derived.Test.YtljbbmefemfjpaaQtR
namespace Go.Proofs.Ytljbbmefemfjpaa.QtS
open Go.RowKit QtPl QtB QtIn QtC QtM QtR
set_option linter.unusedSimpArgs false
set_option linter.unusedVariables false

/-- the cells of a list of numbers -/
def mc (M : List Int) : List Value := M.map fun m => .int .i64 m
theorem mc_len (M : List Int) : (mc M).length = M.length := by simp [mc]
theorem mc_at {M : List Int} {j : Nat} {m : Int} (h : M[j]? = some m) : (mc M)[j]? = some (.int .i64 m) := by simp [mc, h]
theorem mc_set (M : List Int) (j : Nat) (m : Int) : (mc M).set j (.int .i64 m) = mc (M.set j m) := by unfold mc; rw [List.map_set]
theorem own_form {w : World} {base : Nat} {e : TypeId} {size n m : Nat} {v : Value} {xs : List Value} (h : w.ownsRow base e size v n xs) (hv : v ≠ .slice none 0 0) (hn : n = m) : ∃ g c, v = .slice (some ⟨g, 0, none⟩) m c ∧ w.ownsRow base e size (.slice (some ⟨g, 0, none⟩) m c) m xs := by
  subst hn
  rcases h.2 with ⟨h0, _⟩ | ⟨g, cap, cur, rfl, _⟩
  · exact absurd h0 hv
  · exact ⟨g, cap, rfl, h⟩
theorem row_base {w : World} {b b' : Nat} {e : TypeId} {size : Nat} {v : Value} {n : Nat} {xs : List Value} (h : b' ≤ b) (ho : w.ownsRow b e size v n xs) : w.ownsRow b' e size v n xs := by
  refine ⟨ho.1, ?_⟩
  rcases ho.2 with h' | ⟨g, cap, cur, e1, e2, e3⟩
  · exact .inl h'
  · exact .inr ⟨g, cap, cur, e1, Nat.le_trans h e2, e3⟩
theorem one_new (w : World) (v : Value) (t : TypeId) : ∀ (j : Nat) (u : Value), [v][j]? = some u → (w.alloc (.cells #[v] t)).cell? ((⟨w.heap.size, 0, none⟩ : Addr).add j) = some u := by
  intro j u hu
  rw [Go.WideShapes.add_plain, Nat.zero_add]
  match j, hu with
  | 0, hu => cases hu; simp
  | j + 1, hu => simp at hu
theorem own_lit0 {w : World} {base b : Nat} {e : TypeId} {size : Nat} (hb : w.heap[b]? = some (.cells #[] e (0, 0))) (h : base ≤ b) : w.ownsRow base e size (.slice (some ⟨b, 0, none⟩) 0 0) 0 [] :=
  ⟨by simp, .inr ⟨b, 0, #[], rfl, h, hb, Nat.le_refl _, by decide, by simp, by simp⟩⟩
theorem heap_at2 (w : World) (a b : Obj) : ((w.alloc a).alloc b).heap[w.heap.size + 1]? = some b := by
  have := heap_alloc_new (w.alloc a) b
  rw [show (w.alloc a).heap.size = w.heap.size + 1 by simp] at this
  exact this
theorem heap_at1 (w : World) (a b : Obj) : ((w.alloc a).alloc b).heap[w.heap.size]? = some a :=
  (heap_alloc_old _ _ (by simp)).trans (heap_alloc_new _ _)

def OwPost (O : List Nat) (n : Nat) (w : World) (e : Ending) (w' : World) : Prop := ∃ g c, e = .returned (.slice (some ⟨g, 0, none⟩) n c) ∧ w'.ownsRow w.heap.size 3 1 (.slice (some ⟨g, 0, none⟩) n c) n (ic O) ∧ Below w.heap.size w w'
set_option maxHeartbeats 1000000 in
theorem own_q (base g c n : Nat) (O : List Nat) (w : World) (h : w.ownsRow base 3 1 (.slice (some ⟨g, 0, none⟩) n c) n (ic O)) (hn : n ≤ 1048576) :
    Calls Try.prog 53 #[.slice (some ⟨g, 0, none⟩) n c] w (OwPost O n w) := by
  obtain ⟨i0, hi, hz0, hz1, hz2⟩ := info_parts infoInt
  have hl : (ic O).length = n * 1 := h.1
  have hce : ∀ j u, (ic O)[j]? = some u → (w.alloc (.cells #[] 3)).cell? ((⟨g, 0, none⟩ : Addr).add j) = some u := fun j u hu => by
    have hlt := (h.lt g rfl).2
    rw [← h.cells rfl j u hu]
    exact ((kal (kre w) (.cells #[] 3)).cell (p := (⟨g, 0, none⟩ : Addr).add j) (by rw [Go.WideShapes.add_plain]; exact hlt))
  have h0 : (w.alloc (.cells #[] 3)).ownsRow w.heap.size 3 1 (.slice (some ⟨w.heap.size, 0, none⟩) 0 0) 0 [] := own_lit0 (heap_alloc_new _ _) (Nat.le_refl _)
  have hb := kal (kre w) (.cells #[] 3)
  have h1 : ∀ u ∈ ic O, u.oneCell' = true := by intro u hu; unfold ic at hu; obtain ⟨x, _, rfl⟩ := List.mem_map.1 hu; rfl
  go_enter Try.func53, Try.ntmps53
  go_wp2_with (at_builtin; refine wpList_append_own _ rfl _ _ 30 rfl w.heap.size 3 i0 _ 1 8 Try.underlying30 hi hz0 hz1 hz2 rfl (by decide) (.slice (some ⟨w.heap.size, 0, none⟩) 0 0) 0 [] rfl h0 ⟨g, 0, none⟩ n c (ic O) rfl hl hce h1 (by unfold maxLen; omega) (by omega) (by simp) ?_; intro v8 w8 hown hgrow hne)
  go_ret
  have hv : v8 ≠ .slice none 0 0 := fun e9 => by have := (hne.1 e9).1; cases this
  obtain ⟨g8, c8, rfl, ho⟩ := own_form (m := n) hown hv (by omega)
  rw [List.nil_append] at ho
  exact ⟨g8, c8, rfl, ho, kgr hb hgrow (fun k hk => by cases hk; exact Nat.le_refl _)⟩

def PtPost (s : ByteArray) (w : World) (e : Ending) (w' : World) : Prop := ∃ g c, e = .returned (.slice (some ⟨g, 0, none⟩) s.size c) ∧ w'.ownsRow w.heap.size 3 1 (.slice (some ⟨g, 0, none⟩) s.size c) s.size (mc (qrun s s.size).M) ∧ Below w.heap.size w w'
set_option maxRecDepth 100000 in
set_option maxHeartbeats 4000000 in
theorem part_s (s : ByteArray) (w : World) (hs : s.size ≤ 200) :
    Calls Try.prog 30 #[.string s] w (PtPost s w) := by
  obtain ⟨i0, hi, hz0, hz1, hz2⟩ := info_parts infoInt
  have HO3 : Hid (((w.alloc (.cells #[] 3)).alloc (.cells #[] 3)).ownsRow w.heap.size 3 1 (.slice (some ⟨w.heap.size, 0, none⟩) 0 0) 0 (mc (qrun s 0).M)) := Lib.hid (own_lit0 (heap_at1 _ _ _) (Nat.le_refl _))
  have HO4 : Hid (((w.alloc (.cells #[] 3)).alloc (.cells #[] 3)).ownsRow w.heap.size 3 1 (.slice (some ⟨w.heap.size + 1, 0, none⟩) 0 0) (qrun s 0).O.length (ic (qrun s 0).O)) := Lib.hid (own_lit0 (heap_at2 _ _ _) (Nat.le_succ _))
  have HB0 : Hid (Kp w ((w.alloc (.cells #[] 3)).alloc (.cells #[] 3))) := Lib.hid (kal (kal (kre _) _) _)
  go_enter Try.func30, Try.ntmps30
  go_wp2_with fail
  go_loopw [3, 4, 5] (fun v v' q wr => ∃ k : Nat, k ≤ s.size ∧ q = .int .i64 k ∧ (∃ g3 c3 g4 c4 n, v = .slice (some ⟨g3, 0, none⟩) k c3 ∧ v' = .slice (some ⟨g4, 0, none⟩) n c4 ∧ Hid ((qrun s k).O.length = n) ∧ Hid (wr.ownsRow w.heap.size 3 1 (.slice (some ⟨g3, 0, none⟩) k c3) k (mc (qrun s k).M)) ∧ Hid (wr.ownsRow w.heap.size 3 1 (.slice (some ⟨g4, 0, none⟩) n c4) n (ic (qrun s k).O)) ∧ Hid (g3 ≠ g4)) ∧ Kp w wr) (fun _ _ q _ => s.size - (intOf q).toNat)
  case atStart => exact ⟨0, Nat.zero_le _, rfl, ⟨_, _, _, _, 0, rfl, by simp, Lib.hid rfl, HO3, HO4, Lib.hid (by omega)⟩, HB0.out⟩
  case round =>
    obtain ⟨k, hk, rfl, ⟨g3, c3, g4, c4, nO, rfl, rfl, HN, HO3, HO4, HNE⟩, hb⟩ := hrel
    by_cases hlt : k < s.size
    · have HI := Lib.hid (inv_run s k)
      have HST := Lib.hid (qrun_succ s k)
      generalize qrun s k = q at HN HO3 HO4 HI HST
      have hnO := op_le HI.out
      rw [HN.out] at hnO
      have h3 := HO3.out.lt g3 rfl
      have h4 := HO4.out.lt g4 rfl
      obtain ⟨z, hz⟩ : ∃ z, isMk s k = z := ⟨_, rfl⟩
      have HM := Lib.hid (fun w' => mark_s k s z w' (by omega) hlt hz)
      have HZ := Lib.hid hz
      have HR3 := Lib.hid (HO3.out.alloc (.cells #[.int .i64 (-1)] 3))
      have HR4 := Lib.hid (HO4.out.alloc (.cells #[.int .i64 (-1)] 3))
      have hwsz := ksz hb
      clear hz HO3 HO4
      cases z with
      | false =>
        go_wp2_with (first
          | (at_builtin; refine wpList_append_lies _ rfl _ _ 30 rfl w.heap.size 3 i0 _ 1 8 Try.underlying30 hi hz0 hz1 hz2 rfl (by decide) (.slice (some ⟨g3, 0, none⟩) k c3) k (mc q.M) rfl HR3.out ⟨_, 0, none⟩ 1 1 [.int .i64 (-1)] rfl rfl (one_new _ _ _) (by simp [Value.oneCell']) (by decide) (by unfold maxLen; omega) (by omega) (by simp; omega) _ rfl ?_; intro g8 c8 w8 hown8 hgrow8 hat8 hlt8
             have HO8 : Hid (w8.ownsRow w.heap.size 3 1 (.slice (some ⟨g8, 0, none⟩) (k + 1) c8) (k + 1) (mc (q.M ++ [-1]))) := Lib.hid (by have := hown8; rw [show mc q.M ++ [Value.int .i64 (-1)] = mc (q.M ++ [-1]) by unfold mc; rw [List.map_append]; rfl] at this; exact this)
             have HP8 : Hid (w8.ownsRow w.heap.size 3 1 (.slice (some ⟨g4, 0, none⟩) nO c4) nO (ic q.O)) := Lib.hid (own_far HR4.out hgrow8 (by intro h9; cases h9; exact HNE.out rfl))
             have HNE8 : Hid (g8 ≠ g4) := Lib.hid (by rcases hat8 with h9 | h9; (cases h9; exact HNE.out); (simp at h9; omega))
             have hb8 : Kp w w8 := kgr (kal hb _) hgrow8 (fun j hj => by cases hj; exact h3.1)
             have h48 : g4 < w8.heap.size := (HP8.out.lt g4 rfl).2
             clear hown8 hgrow8 hat8)
          | (go_at_call 34; refine (HM.out _).mono ?_; rintro e w' ⟨rfl, rfl⟩))
        have HE := Lib.hid (HST.out.trans (st_no HZ.out))
        have HO9 : Hid (w8.ownsRow w.heap.size 3 1 (.slice (some ⟨g8, 0, none⟩) (k + 1) c8) (k + 1) (mc (qrun s (k + 1)).M)) := Lib.hid (by rw [HE.out]; exact HO8.out)
        have HP9 : Hid (w8.ownsRow w.heap.size 3 1 (.slice (some ⟨g4, 0, none⟩) nO c4) nO (ic (qrun s (k + 1)).O)) := Lib.hid (by rw [HE.out]; exact HP8.out)
        have HN9 : Hid ((qrun s (k + 1)).O.length = nO) := Lib.hid (by rw [HE.out]; exact HN.out)
        go_roundw
        case rel => exact ⟨k + 1, by omega, by go_num, ⟨g8, c8, g4, c4, nO, rfl, rfl, HN9, HO9, HP9, HNE8⟩, hb8⟩
        case measure => (simp [intOf] <;> omega)
      | true =>
        rcases Nat.eq_zero_or_pos nO with h0 | h0
        · subst h0
          have hnil : q.O = [] := List.eq_nil_of_length_eq_zero HN.out
          have HS := Lib.hid (st_none HZ.out hnil)
          clear hnil
          go_wp2_with (first
            | (at_builtin; refine wpList_append_lies _ rfl _ _ 30 rfl w.heap.size 3 i0 _ 1 8 Try.underlying30 hi hz0 hz1 hz2 rfl (by decide) (.slice (some ⟨g3, 0, none⟩) k c3) k (mc q.M) rfl HR3.out ⟨_, 0, none⟩ 1 1 [.int .i64 (-1)] rfl rfl (one_new _ _ _) (by simp [Value.oneCell']) (by decide) (by unfold maxLen; omega) (by omega) (by simp; omega) _ rfl ?_; intro g8 c8 w8 hown8 hgrow8 hat8 hlt8
               have HO8 : Hid (w8.ownsRow w.heap.size 3 1 (.slice (some ⟨g8, 0, none⟩) (k + 1) c8) (k + 1) (mc (q.M ++ [-1]))) := Lib.hid (by have := hown8; rw [show mc q.M ++ [Value.int .i64 (-1)] = mc (q.M ++ [-1]) by unfold mc; rw [List.map_append]; rfl] at this; exact this)
               have HP8 : Hid (w8.ownsRow w.heap.size 3 1 (.slice (some ⟨g4, 0, none⟩) 0 c4) 0 (ic q.O)) := Lib.hid (own_far HR4.out hgrow8 (by intro h9; cases h9; exact HNE.out rfl))
               have HNE8 : Hid (g8 ≠ g4) := Lib.hid (by rcases hat8 with h9 | h9; (cases h9; exact HNE.out); (simp at h9; omega))
               have hb8 : Kp w w8 := kgr (kal hb _) hgrow8 (fun j hj => by cases hj; exact h3.1)
               have h48 : g4 < w8.heap.size := (HP8.out.lt g4 rfl).2
               clear hown8 hgrow8 hat8)
            | (go_at_call 34; refine (HM.out _).mono ?_; rintro e w' ⟨rfl, rfl⟩))
          go_quiet (fail)
          generalize hw9 : w8.drewN _ = w9
          have hk9 : Kp w8 w9 := by rw [← hw9]; exact kdn (kre _) _
          have hb9 : Kp w w9 := ktr hb8 hk9
          have HO9 := Lib.hid (own_kp HO8.out hk9)
          have HP9 := Lib.hid (own_kp HP8.out hk9)
          clear hw9 hb8 HO8 HP8
          have HOW := Lib.hid (own_q w.heap.size g4 c4 0 q.O w9 HP9.out (by omega))
          have hs9 := ksz hb9
          have h39 := HO9.out.lt g8 rfl
          go_wp2_with (first
            | (go_at_call 53; refine HOW.out.mono ?_; rintro e w10 ⟨gA, cA, rfl, oA, bA⟩
               have hb10 : Kp w w10 := knx hb9 bA
               have HO10 := Lib.hid (own_kp HO9.out bA)
               have HA10 := Lib.hid ((row_base hs9 oA).alloc (.cells #[.int .i64 (k : Int)] 3))
               have hA1 := oA.lt gA rfl
               have hs10 := ksz hb10
               clear oA bA)
            | (at_builtin; refine wpList_append_lies _ rfl _ _ 30 rfl w.heap.size 3 i0 _ 1 8 Try.underlying30 hi hz0 hz1 hz2 rfl (by decide) (.slice (some ⟨gA, 0, none⟩) 0 cA) 0 (ic q.O) rfl HA10.out ⟨_, 0, none⟩ 1 1 [.int .i64 (k : Int)] rfl rfl (one_new _ _ _) (by simp [Value.oneCell']) (by decide) (by unfold maxLen; omega) (by omega) (by simp; omega) _ rfl ?_; intro gB cB w11 hown hgrow hat hlt11
               have HB11 : Hid (w11.ownsRow w.heap.size 3 1 (.slice (some ⟨gB, 0, none⟩) (0 + 1) cB) (0 + 1) (ic (qrun s (k + 1)).O)) := Lib.hid (by rw [HST.out, HS.out]; have := hown; rw [show ic q.O ++ [Value.int .i64 (k : Int)] = ic (q.O ++ [k]) by unfold ic; rw [List.map_append]; rfl] at this; exact this)
               have HO11 : Hid (w11.ownsRow w.heap.size 3 1 (.slice (some ⟨g8, 0, none⟩) (k + 1) c8) (k + 1) (mc (qrun s (k + 1)).M)) := Lib.hid (by rw [HST.out, HS.out]; exact own_far (HO10.out.alloc _) hgrow (by intro h9; cases h9; omega))
               have HNE11 : Hid (g8 ≠ gB) := Lib.hid (by
                 have h10 := HO10.out.lt g8 rfl
                 rcases hat with h9 | h9
                 · have h8 : gA = gB := by cases h9; rfl
                   omega
                 · simp at h9; omega)
               have hb11 : Kp w w11 := kgr (kal hb10 _) hgrow (fun j hj => by cases hj; show w.heap.size ≤ gA; omega)
               have HN11 : Hid ((qrun s (k + 1)).O.length = 0 + 1) := Lib.hid (by rw [HST.out, HS.out]; unfold qadd; dsimp only; rw [List.length_append, HN.out]; rfl)
               clear hown hgrow hat))
          go_roundw
          case rel => exact ⟨k + 1, by omega, by go_num, ⟨g8, c8, gB, cB, _, rfl, rfl, HN11, HO11, HB11, HNE11⟩, hb11⟩
          case measure => (simp [intOf] <;> omega)
        · obtain ⟨n, rfl⟩ : ∃ n, nO = n + 1 := ⟨nO - 1, by omega⟩
          have hlen : n < q.O.length := by rw [HN.out]; omega
          have ha? := List.getElem?_eq_getElem hlen
          have hop := HI.out.op _ (List.getElem_mem hlen)
          have hak := hop.1
          have HaM := Lib.hid hop.2.1
          have HA := Lib.hid ha?
          clear ha? hop
          generalize q.O[n] = a at *
          have hasz : a < s.size := by omega
          have hwn : IntKind.i64.wrap (n : Int) = (n : Int) := by rw [IntKind.wrap_i64]; omega
          by_cases he : s[a] = s[k]
          · have heb : ((s[a].toNat : Int) == (s[k].toNat : Int)) = true := by rw [he]; exact beq_self_eq_true _
            have HS := Lib.hid (st_cl HZ.out HN.out HA.out (by rw [bt_eq hasz, bt_eq hlt]; exact he))
            clear he
            go_wp2_with (first
              | (at_builtin; refine wpList_append_lies _ rfl _ _ 30 rfl w.heap.size 3 i0 _ 1 8 Try.underlying30 hi hz0 hz1 hz2 rfl (by decide) (.slice (some ⟨g3, 0, none⟩) k c3) k (mc q.M) rfl HR3.out ⟨_, 0, none⟩ 1 1 [.int .i64 (-1)] rfl rfl (one_new _ _ _) (by simp [Value.oneCell']) (by decide) (by unfold maxLen; omega) (by omega) (by simp; omega) _ rfl ?_; intro g8 c8 w8 hown8 hgrow8 hat8 hlt8
                 have HO8 : Hid (w8.ownsRow w.heap.size 3 1 (.slice (some ⟨g8, 0, none⟩) (k + 1) c8) (k + 1) (mc (q.M ++ [-1]))) := Lib.hid (by have := hown8; rw [show mc q.M ++ [Value.int .i64 (-1)] = mc (q.M ++ [-1]) by unfold mc; rw [List.map_append]; rfl] at this; exact this)
                 have HP8 : Hid (w8.ownsRow w.heap.size 3 1 (.slice (some ⟨g4, 0, none⟩) (n + 1) c4) (n + 1) (ic q.O)) := Lib.hid (own_far HR4.out hgrow8 (by intro h9; cases h9; exact HNE.out rfl))
                 have HNE8 : Hid (g8 ≠ g4) := Lib.hid (by rcases hat8 with h9 | h9; (cases h9; exact HNE.out); (simp at h9; omega))
                 have hb8 : Kp w w8 := kgr (kal hb _) hgrow8 (fun j hj => by cases hj; exact h3.1)
                 have h48 : g4 < w8.heap.size := (HP8.out.lt g4 rfl).2
                 clear hown8 hgrow8 hat8)
              | (go_at_call 34; refine (HM.out _).mono ?_; rintro e w' ⟨rfl, rfl⟩))
            have hca := (World.ownsRow.cellAt HP8.out n (by omega)).trans (ic_at HA.out)
            go_quiet (fail)
            generalize hw9 : w8.drewN _ = w9
            have hk9 : Kp w8 w9 := by rw [← hw9]; exact kdn (kre _) _
            have hb9 : Kp w w9 := ktr hb8 hk9
            have HO9 := Lib.hid (own_kp HO8.out hk9)
            have HP9 := Lib.hid (own_kp HP8.out hk9)
            clear hw9 hb8 HO8 HP8
            have hcb := (World.ownsRow.cellAt HP9.out n (by omega)).trans (ic_at HA.out)
            have f9 := World.ownsRow.frozenAt HO9.out k
            have f9a := World.ownsRow.frozenAt HO9.out a
            have hm9 : (q.M ++ [-1])[k]? = some (-1) := by
              have := @app_new q.M (-1)
              rw [HI.out.len] at this
              exact this
            have e9 := (World.ownsRow.cellAt HO9.out k (by omega)).trans (mc_at hm9)
            have e9a := (World.ownsRow.cellAt HO9.out a (by omega)).trans (mc_at ((app_old (by rw [HI.out.len]; exact hak)).trans HaM.out))
            have HO10 := Lib.hid ((HO9.out.stored k (.int .i64 (a : Int))).1)
            have e10 : (w9.setCell ⟨g8, k, none⟩ (.int .i64 (a : Int))).cell? ⟨g8, a, none⟩ = some (.int .i64 (-1)) := by rw [World.cell?_setCell_other _ _ _ _ (by intro h9; cases h9; omega)]; exact e9a
            have hcc : (w9.setCell ⟨g8, k, none⟩ (.int .i64 (a : Int))).cell? ⟨g4, n, none⟩ = some (.int .i64 (a : Int)) := by rw [World.cell?_setCell_other _ _ _ _ (by intro h9; cases h9; exact HNE8.out rfl)]; exact hcb
            have f10 : (w9.setCell ⟨g8, k, none⟩ (.int .i64 (a : Int))).frozen? ⟨g8, a, none⟩ = false := by rw [World.frozen?_setCell]; exact f9a
            have HO11 := Lib.hid ((HO10.out.stored a (.int .i64 (k : Int))).1)
            rw [mc_set, mc_set] at HO11
            have hMM : ((q.M ++ [-1]).set k (a : Int)).set a (k : Int) = (qcl a k q).M := by
              unfold qcl
              dsimp only
              have hl := HI.out.len
              rw [List.set_append_right _ _ (by omega), hl, Nat.sub_self]
              rw [List.set_append_left _ _ (by omega)]
              rfl
            have HO12 : Hid (((w9.setCell ⟨g8, k, none⟩ (.int .i64 (a : Int))).setCell ⟨g8, a, none⟩ (.int .i64 (k : Int))).ownsRow w.heap.size 3 1 (.slice (some ⟨g8, 0, none⟩) (k + 1) c8) (k + 1) (mc (qrun s (k + 1)).M)) := Lib.hid (by rw [HST.out, HS.out, ← hMM]; exact HO11.out)
            have hO2 : (qcl a k q).O = q.O.take n := by unfold qcl; dsimp only; rw [List.dropLast_eq_take, HN.out, Nat.add_sub_cancel]
            have HP10 := own_far HP9.out (grown_set w9 g8 k (.int .i64 (a : Int))) (by intro h9; cases h9; exact HNE8.out rfl)
            have HP11 := own_far HP10 (grown_set (w9.setCell ⟨g8, k, none⟩ (.int .i64 (a : Int))) g8 a (.int .i64 (k : Int))) (by intro h9; cases h9; exact HNE8.out rfl)
            have HP12 : Hid (((w9.setCell ⟨g8, k, none⟩ (.int .i64 (a : Int))).setCell ⟨g8, a, none⟩ (.int .i64 (k : Int))).ownsRow w.heap.size 3 1 (.slice (some ⟨g4, 0, none⟩) n c4) n (ic (qrun s (k + 1)).O)) := Lib.hid (by rw [HST.out, HS.out, hO2]; exact own_less HP11 (by omega) (by omega))
            have HN12 : Hid ((qrun s (k + 1)).O.length = n) := Lib.hid (by rw [HST.out, HS.out, hO2, List.length_take, HN.out]; omega)
            have h83 := (HO9.out.lt g8 rfl).1
            have hb12 : Kp w ((w9.setCell ⟨g8, k, none⟩ (.int .i64 (a : Int))).setCell ⟨g8, a, none⟩ (.int .i64 (k : Int))) := (Below.setCell hb9 (p := ⟨g8, k, none⟩) h83 _).setCell (p := ⟨g8, a, none⟩) h83 _
            have hc4 : n + 1 ≤ c4 := by
              rcases HP9.out.2 with ⟨h9, _⟩ | ⟨g, cap, cur, h9, _, _, hnc, _⟩
              · cases h9
              · cases h9; exact hnc
            clear HP10 HP11 HO10 HO11 hMM hO2 hm9 HO9 HP9 hca e9a f9a
            go_wp2_with fail
            go_roundw
            case rel => exact ⟨k + 1, by omega, by go_num, ⟨g8, c8, g4, c4, n, rfl, rfl, HN12, HO12, HP12, HNE8⟩, hb12⟩
            case measure => (simp [intOf] <;> omega)
          · have heb : ((s[a].toNat : Int) == (s[k].toNat : Int)) = false := by
              rw [beq_eq_false_iff_ne]; intro h9; exact he (UInt8.toNat_inj.1 (by omega))
            have HS := Lib.hid (st_op HZ.out HN.out HA.out (by rw [bt_eq hasz, bt_eq hlt]; exact he))
            clear he
            go_wp2_with (first
              | (at_builtin; refine wpList_append_lies _ rfl _ _ 30 rfl w.heap.size 3 i0 _ 1 8 Try.underlying30 hi hz0 hz1 hz2 rfl (by decide) (.slice (some ⟨g3, 0, none⟩) k c3) k (mc q.M) rfl HR3.out ⟨_, 0, none⟩ 1 1 [.int .i64 (-1)] rfl rfl (one_new _ _ _) (by simp [Value.oneCell']) (by decide) (by unfold maxLen; omega) (by omega) (by simp; omega) _ rfl ?_; intro g8 c8 w8 hown8 hgrow8 hat8 hlt8
                 have HO8 : Hid (w8.ownsRow w.heap.size 3 1 (.slice (some ⟨g8, 0, none⟩) (k + 1) c8) (k + 1) (mc (q.M ++ [-1]))) := Lib.hid (by have := hown8; rw [show mc q.M ++ [Value.int .i64 (-1)] = mc (q.M ++ [-1]) by unfold mc; rw [List.map_append]; rfl] at this; exact this)
                 have HP8 : Hid (w8.ownsRow w.heap.size 3 1 (.slice (some ⟨g4, 0, none⟩) (n + 1) c4) (n + 1) (ic q.O)) := Lib.hid (own_far HR4.out hgrow8 (by intro h9; cases h9; exact HNE.out rfl))
                 have HNE8 : Hid (g8 ≠ g4) := Lib.hid (by rcases hat8 with h9 | h9; (cases h9; exact HNE.out); (simp at h9; omega))
                 have hb8 : Kp w w8 := kgr (kal hb _) hgrow8 (fun j hj => by cases hj; exact h3.1)
                 have h48 : g4 < w8.heap.size := (HP8.out.lt g4 rfl).2
                 clear hown8 hgrow8 hat8)
              | (go_at_call 34; refine (HM.out _).mono ?_; rintro e w' ⟨rfl, rfl⟩))
            have hca := (World.ownsRow.cellAt HP8.out n (by omega)).trans (ic_at HA.out)
            go_quiet (fail)
            generalize hw9 : w8.drewN _ = w9
            have hk9 : Kp w8 w9 := by rw [← hw9]; exact kdn (kre _) _
            have hb9 : Kp w w9 := ktr hb8 hk9
            have HO9 := Lib.hid (own_kp HO8.out hk9)
            have HP9 := Lib.hid (own_kp HP8.out hk9)
            clear hw9 hb8 HO8 HP8
            clear hca
            have HOW := Lib.hid (own_q w.heap.size g4 c4 (n + 1) q.O w9 HP9.out (by omega))
            have hs9 := ksz hb9
            have h39 := HO9.out.lt g8 rfl
            go_wp2_with (first
              | (go_at_call 53; refine HOW.out.mono ?_; rintro e w10 ⟨gA, cA, rfl, oA, bA⟩
                 have hb10 : Kp w w10 := knx hb9 bA
                 have HO10 := Lib.hid (own_kp HO9.out bA)
                 have HA10 := Lib.hid ((row_base hs9 oA).alloc (.cells #[.int .i64 (k : Int)] 3))
                 have hA1 := oA.lt gA rfl
                 have hs10 := ksz hb10
                 clear oA bA)
              | (at_builtin; refine wpList_append_lies _ rfl _ _ 30 rfl w.heap.size 3 i0 _ 1 8 Try.underlying30 hi hz0 hz1 hz2 rfl (by decide) (.slice (some ⟨gA, 0, none⟩) (n + 1) cA) (n + 1) (ic q.O) rfl HA10.out ⟨_, 0, none⟩ 1 1 [.int .i64 (k : Int)] rfl rfl (one_new _ _ _) (by simp [Value.oneCell']) (by decide) (by unfold maxLen; omega) (by omega) (by simp; omega) _ rfl ?_; intro gB cB w11 hown hgrow hat hlt11
                 have HB11 : Hid (w11.ownsRow w.heap.size 3 1 (.slice (some ⟨gB, 0, none⟩) ((n + 1) + 1) cB) ((n + 1) + 1) (ic (qrun s (k + 1)).O)) := Lib.hid (by rw [HST.out, HS.out]; have := hown; rw [show ic q.O ++ [Value.int .i64 (k : Int)] = ic (q.O ++ [k]) by unfold ic; rw [List.map_append]; rfl] at this; exact this)
                 have HO11 : Hid (w11.ownsRow w.heap.size 3 1 (.slice (some ⟨g8, 0, none⟩) (k + 1) c8) (k + 1) (mc (qrun s (k + 1)).M)) := Lib.hid (by rw [HST.out, HS.out]; exact own_far (HO10.out.alloc _) hgrow (by intro h9; cases h9; omega))
                 have HNE11 : Hid (g8 ≠ gB) := Lib.hid (by
                   have h10 := HO10.out.lt g8 rfl
                   rcases hat with h9 | h9
                   · have h8 : gA = gB := by cases h9; rfl
                     omega
                   · simp at h9; omega)
                 have hb11 : Kp w w11 := kgr (kal hb10 _) hgrow (fun j hj => by cases hj; show w.heap.size ≤ gA; omega)
                 have HN11 : Hid ((qrun s (k + 1)).O.length = (n + 1) + 1) := Lib.hid (by rw [HST.out, HS.out]; unfold qadd; dsimp only; rw [List.length_append, HN.out]; rfl)
                 clear hown hgrow hat))
            go_roundw
            case rel => exact ⟨k + 1, by omega, by go_num, ⟨g8, c8, gB, cB, _, rfl, rfl, HN11, HO11, HB11, HNE11⟩, hb11⟩
            case measure => (simp [intOf] <;> omega)
    · obtain rfl : k = s.size := by omega
      go_wp2_with fail
      go_ret
      exact ⟨g3, c3, rfl, HO3.out, hb⟩
end Go.Proofs.Ytljbbmefemfjpaa.QtS
