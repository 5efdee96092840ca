/-
  readQuotation: all marks of a text paired.
-/
import Derived.Test.YtljbbmefemfjpaaQtC
import Derived.Test.YtljbbmefemfjpaaQtM
namespace Go.Proofs.Ytljbbmefemfjpaa.QtR
open Go.RowKit QtPl QtB QtIn QtC QtM
set_option linter.unusedSimpArgs false
set_option linter.unusedVariables false

/-- the box Bq holds a quotation of s as read so far -/
def QX (w0 w : World) (Bq : Nat) (s : ByteArray) (q : Qs) : Prop := ∃ AP cP AO cO, QB w0 w Bq s (prs q.M) q.O AP cP AO cO
theorem QX.kp {w0 w w' : World} {Bq : Nat} {s : ByteArray} {q : Qs} (h : QX w0 w Bq s q) (hb : Kp w w') : QX w0 w' Bq s q := by
  obtain ⟨AP, cP, AO, cO, h⟩ := h
  exact ⟨AP, cP, AO, cO, h.kp hb⟩
theorem qx_new (w : World) (s : ByteArray) (t : TypeId) : QX w (w.alloc (.cells #[.slice none 0 0, .slice none 0 0, .string s] t)) w.heap.size s (qrun s 0) :=
  ⟨none, 0, none, 0, (Below.refl _ _).alloc (Nat.le_refl _) _, Nat.le_refl _, by simp, by simp [qrun, prs, prsF], by simp [qrun], by simp, by simp, by simp, World.ownsRow_nil _ _ _ _, World.ownsRow_nil _ _ _ _, .inl rfl⟩
theorem QB.push {w0 w w5 : World} {Bq g c' : Nat} {s : ByteArray} {P : List (Nat × Nat)} {O O' : List Nat} {AP AO : Option Addr} {cP cO : Nat} (h : QB w0 w Bq s P O AP cP AO cO)
    (hg : w.grownBy w5 (Value.slice AO O.length cO).ownBlock) (ho : w5.ownsRow (Bq + 1) 3 1 (.slice (some ⟨g, 0, none⟩) O'.length c') O'.length (ic O')) (hat : (Value.slice AO O.length cO).ownBlock = some g ∨ w.heap.size ≤ g) :
    QB w0 (w5.setCell ⟨Bq, 1, none⟩ (.slice (some ⟨g, 0, none⟩) O'.length c')) Bq s P O' AP cP (some ⟨g, 0, none⟩) c' := by
  have hs := grown_set w5 Bq 1 (.slice (some ⟨g, 0, none⟩) O'.length c')
  have hne : ∀ o, some (⟨Bq, o, none⟩ : Addr).block ≠ (Value.slice AO O.length cO).ownBlock := fun o h9 => own_ne h.ro (Nat.lt_succ_self _) h9.symm
  have hb5 : Below w0.heap.size w0 w5 := below_grown h.bel hg h.bel.size (fun k hk => by have := (h.ro.lt k hk).1; have := h.lo; omega)
  have hfar : w5.ownsRow (Bq + 1) 56 2 (.slice AP P.length cP) P.length (qc P) := h.rp.kept hg h.ap
  have e0 := (hg.cell_far ⟨Bq, 0, none⟩ h.lt (hne 0)).trans h.c0
  have e1 := (hg.cell_far ⟨Bq, 1, none⟩ h.lt (hne 1)).trans h.c1
  have e2 := (hg.cell_far ⟨Bq, 2, none⟩ h.lt (hne 2)).trans h.c2
  have z0 := (hg.frozen_far ⟨Bq, 0, none⟩ h.lt (hne 0)).trans h.f0
  have z1 := (hg.frozen_far ⟨Bq, 1, none⟩ h.lt (hne 1)).trans h.f1
  refine ⟨hb5.setCell (p := ⟨Bq, 1, none⟩) h.lo _, h.lo, by rw [Go.Deep.nblk_setCell]; exact Nat.lt_of_lt_of_le h.lt hg.size, ?_, ?_, ?_, ?_, ?_, ?_, ?_, ?_⟩
  · rw [World.cell?_setCell_other _ _ _ _ (by simp)]; exact e0
  · exact World.cell?_setCell_same _ _ _ e1
  · rw [World.cell?_setCell_other _ _ _ _ (by simp)]; exact e2
  · rw [World.frozen?_setCell]; exact z0
  · rw [World.frozen?_setCell]; exact z1
  · exact own_far hfar hs (own_ne hfar (Nat.lt_succ_self _))
  · exact own_far ho hs (own_ne ho (Nat.lt_succ_self _))
  · rcases hv : (Value.slice AP P.length cP).ownBlock with _ | b
    · exact .inl rfl
    · refine .inr ?_
      rcases hat with h9 | h9
      · rcases h.ap with h8 | h8
        · rw [h8] at hv; cases hv
        · rw [h9, hv] at h8; exact h8
      · intro h8
        have h7 : b = g := by cases h8; rfl
        have := (h.rp.lt b hv).2
        omega
theorem infoInt : (Try.prog.info? 3).map (fun i => (i.zero, i.size, i.bytes)) = some (some (.int .i64 0), 1, 8) := by kernel_rfl

def RqPost (w : World) (s : ByteArray) (e : Ending) (w' : World) : Prop := e = .returned (.pointer (some ⟨w.heap.size, 0, none⟩)) ∧ QX w w' w.heap.size s (qrun s s.size)
set_option maxRecDepth 100000 in
set_option maxHeartbeats 4000000 in
theorem read_q (s : ByteArray) (w : World) (hs : s.size ≤ 200) :
    Calls Try.prog 27 #[.string s] w (RqPost w s) := by
  obtain ⟨i0, hi, hz0, hz1, hz2⟩ := info_parts infoInt
  have HX0 := Lib.hid (qx_new w s 54)
  go_enter Try.func27, Try.ntmps27
  go_wp2_with fail
  go_loopw [11] (fun i wr => ∃ k : Nat, k ≤ s.size ∧ i = .int .i64 k ∧ Hid (QX w wr w.heap.size s (qrun s k))) (fun i _ => s.size - (intOf i).toNat)
  case atStart => exact ⟨0, Nat.zero_le _, rfl, HX0⟩
  case round =>
    obtain ⟨k, hk, rfl, HX⟩ := hrel
    by_cases hlt : k < s.size
    · have HI := Lib.hid (inv_run s k)
      have HST := Lib.hid (qrun_succ s k)
      generalize qrun s k = q at HX HI HST
      obtain ⟨AP, cP, AO, cO, hQ⟩ := HX.out
      have hnO := op_le HI.out
      obtain ⟨nO, hn⟩ : ∃ n, q.O.length = n := ⟨_, rfl⟩
      rw [hn] at hnO
      have HN := Lib.hid hn
      have c1 := hQ.c1
      rw [hn] at c1
      have c2 := hQ.c2
      have f1 := hQ.f1
      have HQ := Lib.hid hQ
      obtain ⟨z, hz⟩ : ∃ z, isMk s k = z := ⟨_, rfl⟩
      have HM := Lib.hid (fun w' (h : w'.cell? ⟨w.heap.size, 2, none⟩ = some (.string s)) => mark_i w.heap.size k s z w' h (by omega) hlt hz)
      have HZ := Lib.hid hz
      clear hQ hn hz HX
      cases z with
      | false =>
        have HE : Hid (QX w wr w.heap.size s (qrun s (k + 1))) := Lib.hid (by rw [HST.out, st_no HZ.out]; unfold QX qno; dsimp only; rw [prs_no]; exact ⟨AP, cP, AO, cO, HQ.out⟩)
        clear HST HZ HQ HI
        go_wp2_with (first | (go_at_call 51; refine (HM.out _ c2).mono ?_; rintro e w' ⟨rfl, rfl⟩))
        go_roundw
        case rel => exact ⟨k + 1, by omega, by go_num, HE⟩
        case measure => (simp [intOf] <;> omega)
      | true =>
        rcases Nat.eq_zero_or_pos nO with h0 | h0
        · subst h0
          have hnil : q.O = [] := List.eq_nil_of_length_eq_zero HN.out
          have HS := Lib.hid (st_none HZ.out hnil)
          clear hnil
          go_wp2_with (go_at_call 51; refine (HM.out _ c2).mono ?_; rintro e w' ⟨rfl, rfl⟩)
          go_quiet (fail)
          generalize hw6 : wr.drewN _ = w6
          have hk6 : Kp wr w6 := by rw [← hw6]; exact kdn (kre _) _
          have HQ6 := Lib.hid (HQ.out.kp hk6)
          have c1' := HQ6.out.c1
          have f1' := HQ6.out.f1
          clear hw6 hk6 HQ c1 f1
          rw [HN.out] at c1'
          have HRO : Hid (w6.ownsRow (w.heap.size + 1) 3 1 (.slice AO 0 cO) 0 (ic q.O)) := Lib.hid (by have := HQ6.out.ro; rw [HN.out] at this; exact this)
          have hlo6 : w.heap.size < w6.heap.size := HQ6.out.lt
          have HPU : Hid (∀ (o : Obj) (w8 : World) (g8 c8 : Nat), (w6.alloc o).grownBy w8 (Value.slice AO 0 cO).ownBlock → w8.ownsRow (w.heap.size + 1) 3 1 (.slice (some ⟨g8, 0, none⟩) (0 + 1) c8) (0 + 1) (ic q.O ++ [.int .i64 (k : Int)]) → ((Value.slice AO 0 cO).ownBlock = some g8 ∨ g8 = (w6.alloc o).heap.size) →
              QX w (w8.setCell ⟨w.heap.size, 1, none⟩ (.slice (some ⟨g8, 0, none⟩) (0 + 1) c8)) w.heap.size s (qrun s (k + 1)) ∧ w8.cell? ⟨w.heap.size, 1, none⟩ = some (.slice AO 0 cO) ∧ w8.frozen? ⟨w.heap.size, 1, none⟩ = false) := Lib.hid (fun o w8 g8 c8 hg ho hat => by
            have Q := HQ6.out.kp (kal (kre w6) o)
            have hl : (q.O ++ [k]).length = 0 + 1 := by rw [List.length_append, HN.out]; rfl
            have hic : ic (q.O ++ [k]) = ic q.O ++ [.int .i64 (k : Int)] := by unfold ic; rw [List.map_append]; rfl
            rw [← hl, ← hic] at ho
            have hg' := hg
            rw [← HN.out] at hg' hat
            have hp := QB.push Q hg' ho (by rcases hat with h9 | h9; exact .inl h9; exact .inr (by omega))
            rw [hl] at hp
            have hne : some (⟨w.heap.size, 1, none⟩ : Addr).block ≠ (Value.slice AO q.O.length cO).ownBlock := fun h9 => own_ne Q.ro (Nat.lt_succ_self _) h9.symm
            have e1 := (hg'.cell_far ⟨w.heap.size, 1, none⟩ Q.lt hne).trans Q.c1
            rw [HN.out] at e1
            refine ⟨?_, e1, (hg'.frozen_far ⟨w.heap.size, 1, none⟩ Q.lt hne).trans Q.f1⟩
            rw [HST.out, HS.out]
            unfold QX qadd
            dsimp only
            rw [prs_no]
            exact ⟨_, _, _, _, hp⟩)
          clear HQ6
          go_wp2_with (first
            | (at_builtin; refine wpList_append_lies _ rfl _ _ 30 rfl (w.heap.size + 1) 3 i0 _ 1 8 Try.underlying30 hi hz0 hz1 hz2 rfl (by decide) (.slice AO 0 cO) 0 (ic q.O) rfl ((HRO.out).alloc _) ⟨_, 0, none⟩ 1 1 [.int .i64 (k : Int)] rfl rfl (fun j u hu => by
                rw [Go.WideShapes.add_plain, Nat.zero_add]
                match j, hu with
                | 0, hu => cases hu; simp
                | j + 1, hu => simp at hu) (by simp [Value.oneCell']) (by decide) (by unfold maxLen; omega) (by omega) (by simp; omega) _ rfl ?_; intro g8 c8 w8 hown8 hgrow8 hat8 hlt8
               have HP8 := HPU.out _ w8 g8 c8 hgrow8 hown8 hat8
               obtain ⟨e1, z1⟩ := HP8.2
               have HX8 := Lib.hid HP8.1))
          go_roundw
          case rel => exact ⟨k + 1, by omega, by go_num, HX8⟩
          case measure => (simp [intOf] <;> omega)
        · obtain ⟨n, rfl⟩ : ∃ n, nO = n + 1 := ⟨nO - 1, by omega⟩
          have hlen : n < q.O.length := by rw [HN.out]; omega
          have ha? := List.getElem?_eq_getElem hlen
          have hak := (HI.out.op _ (List.getElem_mem hlen)).1
          have HA := Lib.hid ha?
          clear ha?
          generalize q.O[n] = a at *
          have hasz : a < s.size := by omega
          obtain ⟨gO, rfl, hgO⟩ : ∃ g, AO = some ⟨g, 0, none⟩ ∧ g < wr.heap.size := by
            rcases HQ.out.ro.2 with ⟨h9, h8⟩ | ⟨g, cap, cur, h9, hb, hg, _⟩
            · rw [HN.out] at h8; omega
            · cases h9; exact ⟨g, rfl, (Array.getElem?_eq_some_iff.1 hg).1⟩
          have hca := (World.ownsRow.cellAt HQ.out.ro n (by rw [HN.out]; omega)).trans (ic_at HA.out)
          have hwn : IntKind.i64.wrap (n : Int) = (n : Int) := by rw [IntKind.wrap_i64]; omega
          by_cases he : s[a] = s[k]
          · have heb : ((s[a].toNat : Int) == (s[k].toNat : Int)) = true := by rw [he]; exact beq_self_eq_true _
            have HCl := Lib.hid (fun w' (hQ' : QB w w' w.heap.size s (prs q.M) q.O AP cP (some ⟨gO, 0, none⟩) cO) => close_q w w' w.heap.size k n a s q AP (some ⟨gO, 0, none⟩) cP cO hQ' HI.out (by omega) HN.out HA.out)
            have HS := Lib.hid (st_cl HZ.out HN.out HA.out (by rw [bt_eq hasz, bt_eq hlt]; exact he))
            clear he
            go_wp2_with (go_at_call 51; refine (HM.out _ c2).mono ?_; rintro e w' ⟨rfl, rfl⟩)
            go_quiet (fail)
            generalize hw6 : wr.drewN _ = w6
            have hk6 : Kp wr w6 := by rw [← hw6]; exact kdn (kre _) _
            have HQ6 := Lib.hid (HQ.out.kp hk6)
            have c1' := HQ6.out.c1
            have f1' := HQ6.out.f1
            clear hw6 hk6 HQ c1 f1
            clear c1' f1'
            go_wp2_with (first | (go_at_call 52; refine (HCl.out _ HQ6.out).mono ?_; rintro e w7 ⟨rfl, AP7, cP7, AO7, cO7, Q7⟩; have HX7 : Hid (QX w w7 w.heap.size s (qrun s (k + 1))) := Lib.hid (by rw [HST.out, HS.out]; exact ⟨AP7, cP7, AO7, cO7, Q7⟩); clear Q7))
            go_roundw
            case rel => exact ⟨k + 1, by omega, by go_num, HX7⟩
            case measure => (simp [intOf] <;> omega)
          · have heb : ((s[a].toNat : Int) == (s[k].toNat : Int)) = false := by
              rw [beq_eq_false_iff_ne]; intro h9; exact he (UInt8.toNat_inj.1 (by omega))
            have HS := Lib.hid (st_op HZ.out HN.out HA.out (by rw [bt_eq hasz, bt_eq hlt]; exact he))
            clear he
            go_wp2_with (go_at_call 51; refine (HM.out _ c2).mono ?_; rintro e w' ⟨rfl, rfl⟩)
            go_quiet (fail)
            generalize hw6 : wr.drewN _ = w6
            have hk6 : Kp wr w6 := by rw [← hw6]; exact kdn (kre _) _
            have HQ6 := Lib.hid (HQ.out.kp hk6)
            have c1' := HQ6.out.c1
            have f1' := HQ6.out.f1
            clear hw6 hk6 HQ c1 f1
            rw [HN.out] at c1'
            have HRO : Hid (w6.ownsRow (w.heap.size + 1) 3 1 (.slice (some ⟨gO, 0, none⟩) (n + 1) cO) (n + 1) (ic q.O)) := Lib.hid (by have := HQ6.out.ro; rw [HN.out] at this; exact this)
            have hlo6 : w.heap.size < w6.heap.size := HQ6.out.lt
            have HPU : Hid (∀ (o : Obj) (w8 : World) (g8 c8 : Nat), (w6.alloc o).grownBy w8 (Value.slice (some ⟨gO, 0, none⟩) (n + 1) cO).ownBlock → w8.ownsRow (w.heap.size + 1) 3 1 (.slice (some ⟨g8, 0, none⟩) ((n + 1) + 1) c8) ((n + 1) + 1) (ic q.O ++ [.int .i64 (k : Int)]) → ((Value.slice (some ⟨gO, 0, none⟩) (n + 1) cO).ownBlock = some g8 ∨ g8 = (w6.alloc o).heap.size) →
                QX w (w8.setCell ⟨w.heap.size, 1, none⟩ (.slice (some ⟨g8, 0, none⟩) ((n + 1) + 1) c8)) w.heap.size s (qrun s (k + 1)) ∧ w8.cell? ⟨w.heap.size, 1, none⟩ = some (.slice (some ⟨gO, 0, none⟩) (n + 1) cO) ∧ w8.frozen? ⟨w.heap.size, 1, none⟩ = false) := Lib.hid (fun o w8 g8 c8 hg ho hat => by
              have Q := HQ6.out.kp (kal (kre w6) o)
              have hl : (q.O ++ [k]).length = (n + 1) + 1 := by rw [List.length_append, HN.out]; rfl
              have hic : ic (q.O ++ [k]) = ic q.O ++ [.int .i64 (k : Int)] := by unfold ic; rw [List.map_append]; rfl
              rw [← hl, ← hic] at ho
              have hg' := hg
              rw [← HN.out] at hg' hat
              have hp := QB.push Q hg' ho (by rcases hat with h9 | h9; exact .inl h9; exact .inr (by omega))
              rw [hl] at hp
              have hne : some (⟨w.heap.size, 1, none⟩ : Addr).block ≠ (Value.slice (some ⟨gO, 0, none⟩) q.O.length cO).ownBlock := fun h9 => own_ne Q.ro (Nat.lt_succ_self _) h9.symm
              have e1 := (hg'.cell_far ⟨w.heap.size, 1, none⟩ Q.lt hne).trans Q.c1
              rw [HN.out] at e1
              refine ⟨?_, e1, (hg'.frozen_far ⟨w.heap.size, 1, none⟩ Q.lt hne).trans Q.f1⟩
              rw [HST.out, HS.out]
              unfold QX qadd
              dsimp only
              rw [prs_no]
              exact ⟨_, _, _, _, hp⟩)
            clear HQ6
            go_wp2_with (first
              | (at_builtin; refine wpList_append_lies _ rfl _ _ 30 rfl (w.heap.size + 1) 3 i0 _ 1 8 Try.underlying30 hi hz0 hz1 hz2 rfl (by decide) (.slice (some ⟨gO, 0, none⟩) (n + 1) cO) (n + 1) (ic q.O) rfl ((HRO.out).alloc _) ⟨_, 0, none⟩ 1 1 [.int .i64 (k : Int)] rfl rfl (fun j u hu => by
                  rw [Go.WideShapes.add_plain, Nat.zero_add]
                  match j, hu with
                  | 0, hu => cases hu; simp
                  | j + 1, hu => simp at hu) (by simp [Value.oneCell']) (by decide) (by unfold maxLen; omega) (by omega) (by simp; omega) _ rfl ?_; intro g8 c8 w8 hown8 hgrow8 hat8 hlt8
                 have HP8 := HPU.out _ w8 g8 c8 hgrow8 hown8 hat8
                 obtain ⟨e1, z1⟩ := HP8.2
                 have HX8 := Lib.hid HP8.1))
            go_roundw
            case rel => exact ⟨k + 1, by omega, by go_num, HX8⟩
            case measure => (simp [intOf] <;> omega)
    · obtain rfl : k = s.size := by omega
      go_wp2_with fail
      go_ret
      exact ⟨rfl, HX.out⟩
end Go.Proofs.Ytljbbmefemfjpaa.QtR
