/-
  Several texts of one claim in one file: QtL, QtK.
-/
import Derived.Test.YtljbbmefemfjpaaGNh
import Derived.Test.YtljbbmefemfjpaaQtQ
import Derived.Test.YtljbbmefemfjpaaQtG
/-
  Lists of lists of two numbers that own their memory; the laws' helpers over them.
-/
namespace Go.Proofs.Ytljbbmefemfjpaa.QtL
open Go.RowKit QtPl QtB QtIn QtC QtM QtR QtS QtE QtN
set_option linter.unusedSimpArgs false
set_option linter.unusedVariables false

/-- the cells of the outer row -/
def fc (F : List Nat) : List Value := F.map fun f => .slice (some ⟨f, 0, none⟩) 2 2
theorem fc_len (F : List Nat) : (fc F).length = F.length := by simp [fc]
theorem fc_at {F : List Nat} {j f : Nat} (h : F[j]? = some f) : (fc F)[j]? = some (.slice (some ⟨f, 0, none⟩) 2 2) := by simp [fc, h]
structure LL (w : World) (base : Nat) (v : Value) (F : List Nat) (C : List (List Int)) : Prop where
  row : w.ownsRow base 30 1 v F.length (fc F)
  len : F.length = C.length
  inn : ∀ (i f : Nat) (c : List Int), F[i]? = some f → C[i]? = some c → c.length = 2 ∧ w.ownsRow base 3 1 (.slice (some ⟨f, 0, none⟩) 2 2) 2 (mc c)
  nd : F.Nodup
  ap : ∀ f ∈ F, v.ownBlock ≠ some f
theorem LL.fat {w : World} {base : Nat} {v : Value} {F : List Nat} {C : List (List Int)} (h : LL w base v F C) {f : Nat} (hf : f ∈ F) : base ≤ f ∧ f < w.heap.size := by
  obtain ⟨i, hi⟩ := List.getElem?_of_mem hf
  have hil := (List.getElem?_eq_some_iff.1 hi).1
  have hc := List.getElem?_eq_getElem (show i < C.length by rw [← h.len]; exact hil)
  exact (h.inn i f _ hi hc).2.lt f rfl
theorem LL.kp {w w' : World} {base : Nat} {v : Value} {F : List Nat} {C : List (List Int)} (h : LL w base v F C) (hb : Kp w w') : LL w' base v F C :=
  ⟨own_kp h.row hb, h.len, fun i f c h1 h2 => ⟨(h.inn i f c h1 h2).1, own_kp (h.inn i f c h1 h2).2 hb⟩, h.nd, h.ap⟩
/-- kept where only blocks from B on may change -/
theorem own_keepB {w w' : World} {base B : Nat} {e : TypeId} {size n : Nat} {v : Value} {xs : List Value} (h : w.ownsRow base e size v n xs) (hlt : ∀ k, v.ownBlock = some k → k < B) (hb : Below B w w') : w'.ownsRow base e size v n xs := by
  refine ⟨h.1, ?_⟩
  rcases h.2 with h0 | ⟨g, cap, cur, rfl, h2, h3, h4⟩
  · exact .inl h0
  · exact .inr ⟨g, cap, cur, rfl, h2, (hb.block g (hlt g rfl)).trans h3, h4⟩
theorem LL.keepB {w w' : World} {base B : Nat} {v : Value} {F : List Nat} {C : List (List Int)} (h : LL w base v F C) (h1 : ∀ k, v.ownBlock = some k → k < B) (h2 : ∀ f ∈ F, f < B) (hb : Below B w w') : LL w' base v F C :=
  ⟨own_keepB h.row h1 hb, h.len, fun i f c hi hc => ⟨(h.inn i f c hi hc).1, own_keepB (h.inn i f c hi hc).2 (fun k hk => by cases hk; exact h2 f (List.mem_of_getElem? hi)) hb⟩, h.nd, h.ap⟩
theorem LL.form {w : World} {base : Nat} {v : Value} {F : List Nat} {C : List (List Int)} (h : LL w base v F C) : ∃ A c, v = .slice A F.length c := by
  rcases h.row.2 with ⟨rfl, h0⟩ | ⟨g, cap, cur, rfl, _⟩
  · exact ⟨none, 0, by rw [h0]⟩
  · exact ⟨_, _, rfl⟩
theorem LL.cell {w : World} {base c : Nat} {A : Option Addr} {F : List Nat} {C : List (List Int)} (h : LL w base (.slice A F.length c) F C) {k f : Nat} (hf : F[k]? = some f) : ∃ g, A = some ⟨g, 0, none⟩ ∧ g < w.heap.size ∧ w.cell? ⟨g, k, none⟩ = some (.slice (some ⟨f, 0, none⟩) 2 2) := by
  have hk := (List.getElem?_eq_some_iff.1 hf).1
  obtain ⟨g, cap, e, hb, hg⟩ := h.row.form (by omega)
  cases e
  exact ⟨g, rfl, hg, (World.ownsRow.cellAt h.row k (by omega)).trans (fc_at hf)⟩

/-- the marks of a list of lists of two -/
def mkL (k0 n : Nat) : List (List Int) := (List.range n).map fun j => mkI (k0 + 2 * j) 2
theorem mkL_len (k0 n : Nat) : (mkL k0 n).length = n := by simp [mkL]
theorem mkL_at {k0 n j : Nat} (h : j < n) : (mkL k0 n)[j]? = some (mkI (k0 + 2 * j) 2) := by
  unfold mkL
  rw [List.getElem?_map, List.getElem?_range h]
  rfl
theorem mkL_step {k0 n k : Nat} {C : List (List Int)} (hl : C.length = n) (h : k < n) : (mkL k0 k ++ C.drop k).set k (mkI (k0 + 2 * k) 2) = mkL k0 (k + 1) ++ C.drop (k + 1) := by
  have hk : k < C.length := by omega
  rw [List.set_append_right _ _ (by rw [mkL_len]; exact Nat.le_refl _), mkL_len, Nat.sub_self, List.drop_eq_getElem_cons hk]
  unfold mkL
  rw [List.range_succ, List.map_append]
  simp
  rw [List.drop_eq_getElem_cons hk]
  rfl
/-- one inner row written -/
theorem LL.put {w w' : World} {base k f : Nat} {v : Value} {F : List Nat} {C : List (List Int)} {c' : List Int} (h : LL w base v F C) (hf : F[k]? = some f) (hc' : c'.length = 2) (ho : w'.ownsRow base 3 1 (.slice (some ⟨f, 0, none⟩) 2 2) 2 (mc c')) (hg : w.grownBy w' (some f)) : LL w' base v F (C.set k c') := by
  have hk := (List.getElem?_eq_some_iff.1 hf).1
  refine ⟨own_far h.row hg (h.ap f (List.mem_of_getElem? hf)), by rw [List.length_set]; exact h.len, fun i f' c hi hc => ?_, h.nd, h.ap⟩
  by_cases hik : k = i
  · subst hik
    rw [hf] at hi
    cases hi
    rw [List.getElem?_set, if_pos rfl, if_pos (by rw [← h.len]; exact hk)] at hc
    cases hc
    exact ⟨hc', ho⟩
  · rw [List.getElem?_set, if_neg hik] at hc
    obtain ⟨h1, h2⟩ := h.inn i f' c hi hc
    refine ⟨h1, own_far h2 hg (fun h9 => ?_)⟩
    have h8 : f' = f := by cases h9; rfl
    subst h8
    exact hik ((List.getElem?_inj hk h.nd).1 (hf.trans hi.symm))
end Go.Proofs.Ytljbbmefemfjpaa.QtL
/-
  PairMarks of both.
-/
namespace Go.Proofs.Ytljbbmefemfjpaa.QtK
open Go.RowKit QtPl QtB QtIn QtC QtM QtR QtS QtE QtN QtL QtQ
open QtG (prs_take)
set_option linter.unusedSimpArgs false
set_option linter.unusedVariables false

/-- a pair as a list of two -/
def p2 (x : Nat × Nat) : List Int := [(x.1 : Int), (x.2 : Int)]
/-- what PairMarks answers -/
def pmV (s : ByteArray) : List (List Int) := if okQ s = true then (prs (qrun s s.size).M).map p2 else []
theorem pm_len (s : ByteArray) : (pmV s).length ≤ 200 := by
  unfold pmV
  split
  · have := prs_le (inv_run s s.size)
    have := okQ_size ‹_›
    rw [List.length_map]
    omega
  · exact Nat.zero_le _
def PmPost (s : ByteArray) (w : World) (e : Ending) (w' : World) : Prop := ∃ v F, e = .returned (.tuple #[v, .bool (okQ s)]) ∧ LL w' w.heap.size v F (pmV s) ∧ Kp w w'
theorem infoL : (Try.prog.info? 30).map (fun i => (i.zero, i.size, i.bytes)) = some (some (.slice none 0 0), 1, 24) := by kernel_rfl
theorem ll_nil {w : World} {base b : Nat} (hb : w.heap[b]? = some (.cells #[] 30 (0, 0))) (h : base ≤ b) : LL w base (.slice (some ⟨b, 0, none⟩) 0 0) [] [] :=
  ⟨own_lit0 hb h, rfl, fun i f c hi => (by simp at hi), List.nodup_nil, fun f hf => (by cases hf)⟩
/-- one pair added: the inner row lies at f, the outer row has grown -/
theorem LL.add {w wx w8 : World} {base g8 c8 m f : Nat} {v : Value} {F : List Nat} {C : List (List Int)} {c' : List Int} (h : LL w base v F C) (hm : F.length = m) (hk : Kp w wx) (hf : w.heap.size ≤ f) (hbf : base ≤ f) (hc' : c'.length = 2)
    (ho : wx.ownsRow base 3 1 (.slice (some ⟨f, 0, none⟩) 2 2) 2 (mc c')) (hr : w8.ownsRow base 30 1 (.slice (some ⟨g8, 0, none⟩) (m + 1) c8) (m + 1) (fc F ++ [.slice (some ⟨f, 0, none⟩) 2 2])) (hg : wx.grownBy w8 v.ownBlock) (hat : v.ownBlock = some g8 ∨ g8 = wx.heap.size) :
    LL w8 base (.slice (some ⟨g8, 0, none⟩) (m + 1) c8) (F ++ [f]) (C ++ [c']) := by
  have hl : (F ++ [f]).length = m + 1 := by rw [List.length_append, hm]; rfl
  have hfx := (ho.lt f rfl).2
  have hvf : v.ownBlock ≠ some f := fun h9 => by have := (h.row.lt f h9).2; omega
  refine ⟨?_, by rw [List.length_append, List.length_append, h.len]; rfl, fun i f' c hi hc => ?_, ?_, fun f' hf' => ?_⟩
  · rw [hl]
    unfold fc
    rw [List.map_append]
    exact hr
  · rcases Nat.lt_or_ge i F.length with h1 | h1
    · rw [List.getElem?_append_left h1] at hi
      rw [List.getElem?_append_left (by rw [← h.len]; exact h1)] at hc
      obtain ⟨h2, h3⟩ := h.inn i f' c hi hc
      exact ⟨h2, own_far (own_kp h3 hk) hg (fun h9 => h.ap f' (List.mem_of_getElem? hi) h9.symm)⟩
    · rw [List.getElem?_append_right h1] at hi
      rw [List.getElem?_append_right (by rw [← h.len]; exact h1)] at hc
      have h0 : i - F.length = 0 := by have := (List.getElem?_eq_some_iff.1 hi).1; simp at this; omega
      rw [h0] at hi
      rw [← h.len, h0] at hc
      cases hi
      cases hc
      exact ⟨hc', own_far ho hg (fun h9 => hvf h9.symm)⟩
  · rw [List.nodup_append]
    refine ⟨h.nd, List.nodup_cons.2 ⟨fun h9 => (by cases h9), List.nodup_nil⟩, fun a ha b hb => ?_⟩
    obtain rfl := List.mem_singleton.1 hb
    have := (h.fat ha).2
    omega
  · have hgf : ∀ f', f' ∈ F ∨ f' = f → f' < wx.heap.size := fun f' h9 => by
      rcases h9 with h9 | rfl
      · have := (h.fat h9).2; have := ksz hk; omega
      · exact hfx
    intro h9
    have h8 : g8 = f' := by cases h9; rfl
    subst h8
    rcases List.mem_append.1 hf' with h7 | h7
    · rcases hat with h6 | h6
      · exact h.ap g8 h7 h6
      · have := hgf g8 (.inl h7); omega
    · obtain rfl := List.mem_singleton.1 h7
      rcases hat with h6 | h6
      · exact hvf h6
      · omega
theorem one_new2 (w : World) (o : Obj) (v : Value) (t : TypeId) : ∀ (j : Nat) (u : Value), [v][j]? = some u → ((w.alloc o).alloc (.cells #[v] t)).cell? ((⟨w.heap.size + 1, 0, none⟩ : Addr).add j) = some u := by
  intro j u hu
  have := one_new (w.alloc o) v t j u hu
  rw [show (w.alloc o).heap.size = w.heap.size + 1 by simp] at this
  exact this
/-- another row stays where the outer row grows -/
theorem far_row {w wx w8 : World} {base g g8 n m c size : Nat} {e : TypeId} {v : Value} {xs : List Value} (h : w.ownsRow base e size v n xs) (hne : v.ownBlock ≠ some g) (hk : Kp w wx) (hg : wx.grownBy w8 (Value.slice (some ⟨g, 0, none⟩) m c).ownBlock) (hat : (Value.slice (some ⟨g, 0, none⟩) m c).ownBlock = some g8 ∨ g8 = wx.heap.size) :
    w8.ownsRow base e size v n xs ∧ v.ownBlock ≠ some g8 := by
  refine ⟨own_far (own_kp h hk) hg (fun h9 => hne (by rw [h9]; rfl)), fun h9 => ?_⟩
  rcases hat with h8 | h8
  · exact hne (h9.trans h8.symm)
  · have := (h.lt g8 h9).2
    have := ksz hk
    omega
/-- two numbers in a block of their own -/
theorem two_new (w : World) (a b : Int) : (w.alloc (.cells #[.int .i64 a, .int .i64 b] 3)).ownsRow w.heap.size 3 1 (.slice (some ⟨w.heap.size, 0, none⟩) 2 2) 2 (mc [a, b]) :=
  World.ownsRow_lit (base := w.heap.size) (e := 3) (size := 1) w #[.int .i64 a, .int .i64 b] 2 (Nat.le_refl _) (by decide) (by rfl)

set_option maxRecDepth 100000 in
set_option maxHeartbeats 4000000 in
theorem pairs_i (s : ByteArray) (w : World) (hs : s.size ≤ 1048576) : Calls Try.prog 10 #[.string s] w (PmPost s w) := by
  have HQ := Lib.hid (fun z w hz => quoted_i s z w hs hz)
  obtain ⟨i0, hi, hz0, hz1, hz2⟩ := info_parts infoL
  have HL0 := Lib.hid (ll_nil (w := w.alloc (.cells #[] 30)) (base := w.heap.size) (heap_alloc_new w _) (Nat.le_refl _))
  have hb0 := kal (kre w) (.cells #[] 30)
  unfold PmPost
  cases h : okQ s with
  | false =>
    have hE : pmV s = [] := by unfold pmV; rw [if_neg (by rw [h]; simp)]
    have H1 := Lib.hid (fun w => HQ.out false w h)
    rw [hE]
    clear h HQ hE
    go_enter Try.func10, Try.ntmps10
    go_wp2_with (first | (go_at_call 23; refine (H1.out _).mono ?_; rintro e w' ⟨rfl, rfl⟩))
    go_ret2
    exact ⟨_, [], rfl, HL0.out, hb0⟩
  | true =>
    have hsz := okQ_size h
    have H1 := Lib.hid (fun w => HQ.out true w h)
    have HE : Hid (pmV s = (prs (qrun s s.size).M).map p2) := Lib.hid (by unfold pmV; rw [if_pos h])
    rw [HE.out]
    have HRd := Lib.hid (read_q s (w.alloc (.cells #[] 30)) hsz)
    have HI := Lib.hid (inv_run s s.size)
    unfold RqPost at HRd
    rw [show (w.alloc (.cells #[] 30)).heap.size = w.heap.size + 1 by simp] at HRd
    generalize qrun s s.size = q at HRd HE HI ⊢
    obtain ⟨P, hP⟩ : ∃ P, prs q.M = P := ⟨_, rfl⟩
    have hpl := prs_le HI.out
    rw [hP] at hpl ⊢
    have HPe := Lib.hid hP
    clear h HQ hP
    go_enter Try.func10, Try.ntmps10
    go_wp2_with (first | (go_at_call 23; refine (H1.out _).mono ?_; rintro e w' ⟨rfl, rfl⟩))
    refine HRd.out.mono ?_
    rintro e w1 ⟨rfl, AP, cP, AO, cO, hQ⟩
    have HL1 := Lib.hid (HL0.out.kp hQ.bel)
    have hb1 := ktr hb0 hQ.bel
    rw [HPe.out] at hQ
    obtain ⟨n, hn⟩ : ∃ n, P.length = n := ⟨_, rfl⟩
    have c0 := hQ.c0
    rw [hn] at c0 hpl
    have HN := Lib.hid hn
    have hrp := hQ.rp
    rw [hn] at hrp
    have HRw0 : Hid (w1.ownsRow (w.heap.size + 1 + 1) 56 2 (.slice AP n cP) n (qc P) ∧ (Value.slice AP n cP).ownBlock ≠ some w.heap.size) := Lib.hid ⟨hrp, own_ne hrp (by omega)⟩
    clear hQ hn hrp
    go_wp2_with fail
    go_loopw [4, 19] (fun v i wr => ∃ k : Nat, k ≤ n ∧ i = .int .i64 k ∧ (∃ g c F, v = .slice (some ⟨g, 0, none⟩) k c ∧ Hid (LL wr w.heap.size (.slice (some ⟨g, 0, none⟩) k c) F ((P.take k).map p2)) ∧ Hid (F.length = k) ∧ Hid (wr.ownsRow (w.heap.size + 1 + 1) 56 2 (.slice AP n cP) n (qc P) ∧ (Value.slice AP n cP).ownBlock ≠ some g)) ∧ Kp w wr) (fun _ i _ => n - (intOf i).toNat)
    case atStart => exact ⟨0, Nat.zero_le _, rfl, ⟨_, _, [], rfl, HL1, Lib.hid rfl, HRw0⟩, hb1⟩
    case round =>
      obtain ⟨k, hk, rfl, ⟨g, c, F, rfl, HL, HF, HRw⟩, hbw⟩ := hrel
      by_cases hlt : k < n
      · have hkx : k < P.length := by rw [HN.out]; exact hlt
        have hx? := List.getElem?_eq_getElem hkx
        obtain ⟨gp, rfl, hgp, d0, d1⟩ := (own_rq HRw.out.1) k P[k] hx?
        have HT : Hid ((P.take (k + 1)).map p2 = (P.take k).map p2 ++ [p2 P[k]]) := Lib.hid (by rw [List.take_add_one, hx?, List.map_append]; rfl)
        clear hx?
        generalize P[k] = x at *
        obtain ⟨a, b⟩ := x
        dsimp only at d0 d1
        replace HT : Hid ((P.take (k + 1)).map p2 = (P.take k).map p2 ++ [[(a : Int), (b : Int)]]) := Lib.hid HT.out
        have hsw := ksz hbw
        have HLr := HL.out.row
        rw [HF.out] at HLr
        have hgl := HLr.lt g rfl
        go_upto_region 7 with fail
        have e0 : (wr.alloc (.cells #[.int .i64 (a : Int), .int .i64 (b : Int)] 56)).cell? ⟨wr.heap.size, 0, none⟩ = some (.int .i64 (a : Int)) := by simp
        have e1 : (wr.alloc (.cells #[.int .i64 (a : Int), .int .i64 (b : Int)] 56)).cell? ⟨wr.heap.size, 1, none⟩ = some (.int .i64 (b : Int)) := by simp
        generalize hD : wr.alloc (.cells #[.int .i64 (a : Int), .int .i64 (b : Int)] 56) = wd at e0 e1 ⊢
        have hkd : Kp wr wd := by rw [← hD]; exact kal (kre wr) _
        have hsd1 : wr.heap.size ≤ wd.heap.size := by rw [← hD]; simp
        clear hD
        have HI2 := Lib.hid (two_new wd (a : Int) (b : Int))
        have hk2 : Kp wr (wd.alloc (.cells #[.int .i64 (a : Int), .int .i64 (b : Int)] 3)) := kal hkd _
        have hk3 : Kp wr ((wd.alloc (.cells #[.int .i64 (a : Int), .int .i64 (b : Int)] 3)).alloc (.cells #[.slice (some ⟨wd.heap.size, 0, none⟩) 2 2] 30)) := kal hk2 _
        have HR := Lib.hid (own_kp HLr hk3)
        have HI3 := Lib.hid (row_base (show w.heap.size ≤ wd.heap.size by omega) (HI2.out.alloc (.cells #[.slice (some ⟨wd.heap.size, 0, none⟩) 2 2] 30)))
        have HAd := Lib.hid (fun w8 g8 c8 hr hg hat => LL.add (w8 := w8) (g8 := g8) (c8 := c8) (c' := [(a : Int), (b : Int)]) HL.out HF.out hk3 hsd1 (by omega) rfl HI3.out hr hg hat)
        have hs3 : w.heap.size ≤ ((wd.alloc (.cells #[.int .i64 (a : Int), .int .i64 (b : Int)] 3)).alloc (.cells #[.slice (some ⟨wd.heap.size, 0, none⟩) 2 2] 30)).heap.size := by simp; omega
        have HFar := Lib.hid (fun w8 g8 (hg : World.grownBy _ w8 (Value.slice (some ⟨g, 0, none⟩) k c).ownBlock) (hat : (Value.slice (some ⟨g, 0, none⟩) k c).ownBlock = some g8 ∨ g8 = _) => far_row (w8 := w8) (g8 := g8) HRw.out.1 HRw.out.2 hk3 hg hat)
        clear HLr HI2 HI3
        go_wp2_with (first
          | (at_builtin; refine wpList_append_lies _ rfl _ _ 27 rfl w.heap.size 30 i0 _ 1 24 Try.underlying27 hi hz0 hz1 hz2 rfl (by decide) (.slice (some ⟨g, 0, none⟩) k c) k (fc F) rfl HR.out ⟨_, 0, none⟩ 1 1 [.slice (some ⟨wd.heap.size, 0, none⟩) 2 2] rfl rfl (one_new2 _ _ _ _) (by simp [Value.oneCell']) (by decide) (by unfold maxLen; omega) (by omega) hs3 _ rfl ?_; intro g8 c8 w8 hown hgrow hat hlt8
             have HL8 := Lib.hid (HAd.out w8 g8 c8 hown hgrow hat)
             have hb8 : Kp w w8 := kgr (ktr hbw hk3) hgrow (fun j hj => by cases hj; exact hgl.1)
             have HX8 := Lib.hid (HFar.out w8 g8 hgrow hat)
             have HN8 : Hid ((F ++ [wd.heap.size]).length = k + 1) := Lib.hid (by rw [List.length_append, HF.out]; rfl)
             rw [← HT.out] at HL8
             clear hown hgrow hat))
        go_roundw
        case rel => exact ⟨k + 1, by omega, by go_num, ⟨g8, c8, F ++ [wd.heap.size], rfl, HL8, HN8, HX8⟩, hb8⟩
        case measure => (simp [intOf] <;> omega)
      · obtain rfl : k = n := by omega
        have HE9 : Hid (P.take k = P) := Lib.hid (List.take_of_length_le (by rw [HN.out]; exact Nat.le_refl _))
        rw [HE9.out] at HL
        clear HRw
        go_wp2_with fail
        go_ret2
        exact ⟨_, F, rfl, HL.out, hbw⟩

end Go.Proofs.Ytljbbmefemfjpaa.QtK
