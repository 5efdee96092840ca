/-
  The box of a quotation; (*pairing).close.
-/
import Derived.Test.YtljbbmefemfjpaaQtB
import Derived.Test.YtljbbmefemfjpaaQtIn
import Derived.Test.YtljbbmefemfjpaaQtPl
namespace Go.Proofs.Ytljbbmefemfjpaa.QtC
open Go.RowKit QtPl QtB QtIn
set_option linter.unusedSimpArgs false
set_option linter.unusedVariables false

/-- the cells of a list of places -/
def ic (O : List Nat) : List Value := O.map fun (a : Nat) => .int .i64 (a : Int)
theorem ic_len (O : List Nat) : (ic O).length = O.length := by simp [ic]
theorem ic_at {O : List Nat} {j a : Nat} (h : O[j]? = some a) : (ic O)[j]? = some (.int .i64 (a : Int)) := by simp [ic, h]
/-- the box Bq holds a quotation of s with the pairs P and the open marks O, in memory that w0 did not have -/
structure QB (w0 w : World) (Bq : Nat) (s : ByteArray) (P : List (Nat × Nat)) (O : List Nat) (AP : Option Addr) (cP : Nat) (AO : Option Addr) (cO : Nat) : Prop where
  bel : Below w0.heap.size w0 w
  lo : w0.heap.size ≤ Bq
  lt : Bq < w.heap.size
  c0 : w.cell? ⟨Bq, 0, none⟩ = some (.slice AP P.length cP)
  c1 : w.cell? ⟨Bq, 1, none⟩ = some (.slice AO O.length cO)
  c2 : w.cell? ⟨Bq, 2, none⟩ = some (.string s)
  f0 : w.frozen? ⟨Bq, 0, none⟩ = false
  f1 : w.frozen? ⟨Bq, 1, none⟩ = false
  rp : w.ownsRow (Bq + 1) 56 2 (.slice AP P.length cP) P.length (qc P)
  ro : w.ownsRow (Bq + 1) 3 1 (.slice AO O.length cO) O.length (ic O)
  ap : (Value.slice AP P.length cP).ownBlock = none ∨ (Value.slice AP P.length cP).ownBlock ≠ (Value.slice AO O.length cO).ownBlock
theorem QB.kp {w0 w w' : World} {Bq : Nat} {s : ByteArray} {P : List (Nat × Nat)} {O : List Nat} {AP AO : Option Addr} {cP cO : Nat} (h : QB w0 w Bq s P O AP cP AO cO) (hb : Kp w w') : QB w0 w' Bq s P O AP cP AO cO :=
  ⟨Below.trans h.bel (Below.mono hb h.bel.size), h.lo, Nat.lt_of_lt_of_le h.lt (ksz hb), (hb.cell (p := ⟨Bq, 0, none⟩) h.lt).trans h.c0, (hb.cell (p := ⟨Bq, 1, none⟩) h.lt).trans h.c1, (hb.cell (p := ⟨Bq, 2, none⟩) h.lt).trans h.c2,
    (hb.frozen (p := ⟨Bq, 0, none⟩) h.lt).trans h.f0, (hb.frozen (p := ⟨Bq, 1, none⟩) h.lt).trans h.f1, own_kp h.rp hb, own_kp h.ro hb, h.ap⟩
/-- a row cut at its end -/
theorem own_less {w : World} {base n m c : Nat} {e : TypeId} {A : Option Addr} {O : List Nat} (h : w.ownsRow base e 1 (.slice A n c) n (ic O)) (hm : m ≤ n) (hp : 0 < n) : w.ownsRow base e 1 (.slice A m c) m (ic (O.take m)) := by
  have hl := h.1
  rw [ic_len] at hl
  refine ⟨by rw [ic_len, List.length_take]; omega, ?_⟩
  rcases h.2 with ⟨h0, h00⟩ | ⟨g, cap, cur, h0, hb, hg, hnc, hcm, hcs, hcx⟩
  · omega
  · cases h0
    refine .inr ⟨g, c, cur, rfl, hb, hg, by omega, hcm, hcs, ?_⟩
    have : ic (O.take m) = (ic O).take m := by unfold ic; rw [List.map_take]
    rw [this, ← hcx, List.take_take]
    congr 1
    omega

theorem shape_of {W : World} {b : Nat} {cs : Array Value} {t : TypeId} {fr : Nat × Nat} (h : W.heap[b]? = some (.cells cs t fr)) : W.shape? b = some (t, cs.size) := by simp [World.shape?, h]
theorem shape_n1 (w : World) (a b : Value) (t : TypeId) : (w.alloc (.cells #[a, b] t)).shape? w.heap.size = some (t, 2) := shape_of (heap_alloc_new w (.cells #[a, b] t))
theorem shape_n2 (w : World) (a b : Value) (t : TypeId) : (w.alloc (.cells #[a, b] t)).drew.shape? w.heap.size = some (t, 2) := shape_of (heap_alloc_new w (.cells #[a, b] t))
def ClPost (w0 : World) (Bq : Nat) (s : ByteArray) (P : List (Nat × Nat)) (O : List Nat) (e : Ending) (w' : World) : Prop := e = .returned (.tuple #[]) ∧ ∃ AP cP AO cO, QB w0 w' Bq s P O AP cP AO cO
theorem grown_set (w : World) (B o : Nat) (v : Value) : w.grownBy (w.setCell ⟨B, o, none⟩ v) (some B) :=
  ⟨rfl, rfl, rfl, by rw [Go.Deep.nblk_setCell]; exact Nat.le_refl _, fun k hk hne => Go.Deep.blk_setCell_other _ _ _ _ (fun e => hne (by rw [e]))⟩
theorem own_ne {w : World} {base Bq : Nat} {e : TypeId} {size n : Nat} {v : Value} {xs : List Value} (h : w.ownsRow base e size v n xs) (hb : Bq < base) : v.ownBlock ≠ some Bq := by
  intro h9
  have := (h.lt Bq h9).1
  omega
theorem QB.reslice {w0 w : World} {Bq m gO : Nat} {s : ByteArray} {P : List (Nat × Nat)} {O : List Nat} {AP : Option Addr} {cP cO : Nat} (h : QB w0 w Bq s P O AP cP (some ⟨gO, 0, none⟩) cO) (hm : m ≤ O.length) (hp : 0 < O.length) :
    QB w0 (w.setCell ⟨Bq, 1, none⟩ (.slice (some ⟨gO, 0, none⟩) m cO)) Bq s P (O.take m) AP cP (some ⟨gO, 0, none⟩) cO := by
  have hg := grown_set w Bq 1 (.slice (some ⟨gO, 0, none⟩) m cO)
  have hl : (O.take m).length = m := by rw [List.length_take, Nat.min_eq_left hm]
  refine ⟨h.bel.setCell (p := ⟨Bq, 1, none⟩) h.lo _, h.lo, by rw [Go.Deep.nblk_setCell]; exact h.lt, ?_, ?_, ?_, ?_, ?_, own_far h.rp hg (own_ne h.rp (Nat.lt_succ_self _)), ?_, ?_⟩
  · rw [World.cell?_setCell_other _ _ _ _ (by simp)]; exact h.c0
  · rw [hl]; exact World.cell?_setCell_same _ _ _ h.c1
  · rw [World.cell?_setCell_other _ _ _ _ (by simp)]; exact h.c2
  · rw [World.frozen?_setCell]; exact h.f0
  · rw [World.frozen?_setCell]; exact h.f1
  · rw [hl]
    exact own_far (own_less h.ro hm hp) hg (own_ne (own_less h.ro hm hp) (Nat.lt_succ_self _))
  · exact h.ap
theorem QB.put {w0 w w5 : World} {Bq g c' : Nat} {s : ByteArray} {P P' : List (Nat × Nat)} {O : List Nat} {AP AO : Option Addr} {cP cO : Nat} (h : QB w0 w Bq s P O AP cP AO cO)
    (hg : w.grownBy w5 (Value.slice AP P.length cP).ownBlock) (ho : w5.ownsRow (Bq + 1) 56 2 (.slice (some ⟨g, 0, none⟩) P'.length c') P'.length (qc P')) (hat : (Value.slice AP P.length cP).ownBlock = some g ∨ w.heap.size ≤ g) :
    QB w0 (w5.setCell ⟨Bq, 0, none⟩ (.slice (some ⟨g, 0, none⟩) P'.length c')) Bq s P' O (some ⟨g, 0, none⟩) c' AO cO := by
  have hs := grown_set w5 Bq 0 (.slice (some ⟨g, 0, none⟩) P'.length c')
  have hne : ∀ o, some (⟨Bq, o, none⟩ : Addr).block ≠ (Value.slice AP P.length cP).ownBlock := fun o h9 => own_ne h.rp (Nat.lt_succ_self _) h9.symm
  have hb5 : Below w0.heap.size w0 w5 := below_grown h.bel hg h.bel.size (fun k hk => by have := (h.rp.lt k hk).1; have := h.lo; omega)
  have hfar : w5.ownsRow (Bq + 1) 3 1 (.slice AO O.length cO) O.length (ic O) := h.ro.kept hg (by
    rcases h.ap with h9 | h9
    · rw [h9]
      cases hv : (Value.slice AO O.length cO).ownBlock with
      | none => exact .inl rfl
      | some k => exact .inr (fun e => by cases e)
    · exact .inr (Ne.symm h9))
  have e0 := (hg.cell_far ⟨Bq, 0, none⟩ h.lt (hne 0)).trans h.c0
  have e1 := (hg.cell_far ⟨Bq, 1, none⟩ h.lt (hne 1)).trans h.c1
  have e2 := (hg.cell_far ⟨Bq, 2, none⟩ h.lt (hne 2)).trans h.c2
  have z0 := (hg.frozen_far ⟨Bq, 0, none⟩ h.lt (hne 0)).trans h.f0
  have z1 := (hg.frozen_far ⟨Bq, 1, none⟩ h.lt (hne 1)).trans h.f1
  refine ⟨hb5.setCell (p := ⟨Bq, 0, none⟩) h.lo _, h.lo, by rw [Go.Deep.nblk_setCell]; exact Nat.lt_of_lt_of_le h.lt hg.size, ?_, ?_, ?_, ?_, ?_, ?_, ?_, ?_⟩
  · exact World.cell?_setCell_same _ _ _ e0
  · rw [World.cell?_setCell_other _ _ _ _ (by simp)]; exact e1
  · rw [World.cell?_setCell_other _ _ _ _ (by simp)]; exact e2
  · rw [World.frozen?_setCell]; exact z0
  · rw [World.frozen?_setCell]; exact z1
  · exact own_far ho hs (own_ne ho (Nat.lt_succ_self _))
  · exact own_far hfar hs (own_ne hfar (Nat.lt_succ_self _))
  · refine .inr ?_
    rcases hat with h9 | h9
    · rcases h.ap with h8 | h8
      · rw [h8] at h9; cases h9
      · rw [h9] at h8; exact h8
    · intro h8
      have := (h.ro.lt g h8.symm).2
      omega

set_option maxRecDepth 100000 in
set_option maxHeartbeats 4000000 in
theorem close_q (w0 w : World) (Bq k n a : Nat) (s : ByteArray) (q : Qs) (AP AO : Option Addr) (cP cO : Nat) (h : QB w0 w Bq s (prs q.M) q.O AP cP AO cO) (hI : QInv s k q) (hk : k ≤ 1048576) (hn : q.O.length = n + 1) (ha : q.O[n]? = some a) :
    Calls Try.prog 52 #[.pointer (some ⟨Bq, 0, none⟩), .int .i64 k] w (ClPost w0 Bq s (prs (qcl a k q).M) (qcl a k q).O) := by
  have hmem : a ∈ q.O := List.mem_of_getElem? ha
  have hak := (hI.op a hmem).1
  have hP := prs_cl (hI.op a hmem).2.1 hak hI.len
  have hpl := pAt_le q.M a
  have hpb := prs_le hI
  have hnk := op_le hI
  rw [hn] at hnk
  obtain ⟨P, hPd⟩ : ∃ P, prs q.M = P := ⟨_, rfl⟩
  obtain ⟨pt, hpt⟩ : ∃ pt, pAt q.M a = pt := ⟨_, rfl⟩
  have hlt : ∀ (j : Nat) (x : Nat × Nat), P[j]? = some x → (x.1 < a ↔ j < pt) := fun j x hx => by rw [← hpt]; exact pAt_lt (by rw [hPd]; exact hx)
  have hO2 : (qcl a k q).O = q.O.take n := by unfold qcl; dsimp only; rw [List.dropLast_eq_take, hn, Nat.add_sub_cancel]
  have hP2 : prs (qcl a k q).M = P.take pt ++ (a, k) :: P.drop pt := by rw [← hPd, ← hpt]; exact hP
  rw [hO2, hP2]
  rw [hPd] at h hpl hpb
  rw [hpt] at hpl
  obtain ⟨nP, hnP⟩ : ∃ nP, P.length = nP := ⟨_, rfl⟩
  rw [hnP] at hpl hpb
  obtain ⟨O, hOd⟩ : ∃ O, q.O = O := ⟨_, rfl⟩
  rw [hOd] at h hn ha ⊢
  clear hO2 hP2 hP hPd hpt hmem hI hOd
  have HLt := Lib.hid hlt
  have HnP := Lib.hid hnP
  have Hn := Lib.hid hn
  have HA := Lib.hid ha
  have hro := h.ro
  obtain ⟨gO, rfl, hgO1, hgO2⟩ : ∃ g, AO = some ⟨g, 0, none⟩ ∧ Bq + 1 ≤ g ∧ g < w.heap.size := by
    rcases hro.2 with ⟨h0, h00⟩ | ⟨g, cap, cur, h0, hb, hg, _⟩
    · omega
    · cases h0; exact ⟨g, rfl, hb, (Array.getElem?_eq_some_iff.1 hg).1⟩
  have hca := (World.ownsRow.cellAt hro n (by omega)).trans (ic_at ha)
  have c0 := h.c0
  have c1 := h.c1
  have f1 := h.f1
  have hBq := h.lt
  rw [hnP] at c0
  rw [hn] at c1
  have hcO : n + 1 ≤ cO := by
    rcases hro.2 with ⟨h0, h00⟩ | ⟨g, cap, cur, h0, hb, hg, hnc, _⟩
    · omega
    · cases h0; rw [hn] at hnc; exact hnc
  have HQ := Lib.hid h
  clear hlt hnP hn ha h hro
  go_enter Try.func52, Try.ntmps52
  go_wp2_with fail
  have HQ3 := (HQ.out.reslice (m := n) (by rw [Hn.out]; omega) (by rw [Hn.out]; omega)).kp (kal (kre _) (.cells #[.int .i64 (a : Int), .int .i64 (k : Int)] 56))
  have hsz3 : (w.setCell ⟨Bq, 1, none⟩ (.slice (some ⟨gO, 0, none⟩) n cO)).heap.size = w.heap.size := by rw [Go.Deep.nblk_setCell]
  have D3 : ∀ (W : World), W.heap.size = w.heap.size → (W.alloc (.cells #[.int .i64 (a : Int), .int .i64 (k : Int)] 56)).cell? ⟨w.heap.size, 0, none⟩ = some (.int .i64 (a : Int)) ∧ (W.alloc (.cells #[.int .i64 (a : Int), .int .i64 (k : Int)] 56)).cell? ⟨w.heap.size, 1, none⟩ = some (.int .i64 (k : Int)) ∧ w.heap.size < (W.alloc (.cells #[.int .i64 (a : Int), .int .i64 (k : Int)] 56)).heap.size := fun W h9 => by rw [← h9]; simp
  obtain ⟨d0, d1, hB3⟩ := D3 _ hsz3
  generalize hw3 : (w.setCell ⟨Bq, 1, none⟩ (.slice (some ⟨gO, 0, none⟩) n cO)).alloc (.cells #[.int .i64 (a : Int), .int .i64 (k : Int)] 56) = w3 at HQ3 d0 d1 hB3 ⊢
  generalize hB : w.heap.size = B at d0 d1 hB3 ⊢
  clear hw3 D3 hsz3 hca c0 c1 f1
  have c0 := HQ3.c0
  rw [HnP.out] at c0
  have hB0 := HQ3.lt
  have HQh := Lib.hid HQ3
  clear HQ3 HQ
  have HSS : Hid (∀ w', Kp w3 w' → ((w'.cell? ⟨Bq, 0, none⟩ = some (.slice AP nP cP) ∧ w'.cell? ⟨B, 0, none⟩ = some (.int .i64 (a : Int)) ∧ w'.cell? ⟨B, 1, none⟩ = some (.int .i64 (k : Int))) ∧ Kp w3 w')) := Lib.hid (fun w' h => ⟨⟨(h.cell (p := ⟨Bq, 0, none⟩) hB0).trans c0, (h.cell (p := ⟨B, 0, none⟩) hB3).trans d0, (h.cell (p := ⟨B, 1, none⟩) hB3).trans d1⟩, h⟩)
  have HK0 := Lib.hid (kdr (kre w3))
  have HSe := Lib.hid (fun w' (h : Kp w3 w') => search_q AP cP nP P a k pt w' ((own_rq (HQh.out.kp h).rp)) HnP.out (by omega) hpl HLt.out)
  clear c0 d0 d1
  go_region_held3 (fun w' => (w'.cell? ⟨Bq, 0, none⟩ = some (.slice AP nP cP) ∧ w'.cell? ⟨B, 0, none⟩ = some (.int .i64 (a : Int)) ∧ w'.cell? ⟨B, 1, none⟩ = some (.int .i64 (k : Int))) ∧ Kp w3 w')
    (first | exact HSS.out _ HK0.out | exact HSS.out _ (by assumption))
    (first | (go_at_call 66; (with_reducible refine (HSe.out _ HK0.out).mono ?_); rintro e w4 ⟨⟨f4, rfl⟩, b4⟩; have hk4 : Kp w3 w4 := knx HK0.out b4))
  (try clear hHeld)
  have HQ4 := Lib.hid (HQh.out.kp hk4)
  have hS4 := (HSS.out _ hk4).1
  have hB4 : B < w4.heap.size := Nat.lt_of_lt_of_le hB3 (ksz hk4)
  have hBq4 := HQ4.out.lt
  have f0 := HQ4.out.f0
  clear HSS HK0 HSe b4 HQh hk4
  obtain ⟨c0, d0, d1⟩ := hS4
  have hPl : (P.take pt ++ (a, k) :: P.drop pt).length = nP + 1 := by rw [List.length_append, List.length_cons, List.length_take, List.length_drop, HnP.out]; omega
  have hPc : qc (P.take pt ++ (a, k) :: P.drop pt) = (qc P).take (pt * 2) ++ [.int .i64 (a : Int), .int .i64 (k : Int)] ++ (qc P).drop (pt * 2) := by
    rw [qc_take, qc_drop, qc_app, List.append_assoc]; rfl
  have HIn : Hid (∀ w', Kp w4 w' → w'.cell? ⟨w4.heap.size, 0, none⟩ = some (.int .i64 (a : Int)) → w'.cell? ⟨w4.heap.size, 1, none⟩ = some (.int .i64 (k : Int)) → w'.shape? w4.heap.size = some (56, 2) → w'.frozen? ⟨w4.heap.size, 0, none⟩ = false → w'.frozen? ⟨w4.heap.size, 2, none⟩ = false → w4.heap.size < w'.heap.size →
      Calls Try.prog 69 #[.slice AP nP cP, .int .i64 pt, .slice (some ⟨w4.heap.size, 0, none⟩) 1 1] w' fun e w5 => ∃ g c', e = .returned (.slice (some ⟨g, 0, none⟩) (nP + 1) c') ∧ (w5.cell? ⟨Bq, 0, none⟩ = some (.slice AP nP cP) ∧ w5.frozen? ⟨Bq, 0, none⟩ = false) ∧ Hid (QB w0 (w5.setCell ⟨Bq, 0, none⟩ (.slice (some ⟨g, 0, none⟩) (nP + 1) c')) Bq s (P.take pt ++ (a, k) :: P.drop pt) (O.take n) (some ⟨g, 0, none⟩) c' (some ⟨gO, 0, none⟩) cO)) := Lib.hid (fun w' hk' u0 u1 hsh z0 z2 hlt' => by
    have Q := HQ4.out.kp hk'
    have Qrp := Q.rp
    have hl4 := HQ4.out.rp
    rw [HnP.out] at Qrp hl4
    refine (ins_any (Bq + 1) AP cP nP pt (qc P) [.int .i64 (a : Int), .int .i64 (k : Int)] w4.heap.size 2 _ w' Qrp hpl (by omega) (by have := ksz hk'; omega) rfl hlt' (fun j u hu => by
      rw [Go.WideShapes.add_plain, Nat.zero_add]
      match j, hu with
      | 0, hu => cases hu; exact u0
      | 1, hu => cases hu; exact u1
      | j + 2, hu => simp at hu) (fun u hu => by simp at hu; rcases hu with rfl | rfl <;> rfl) (qc_one P) (fun h9 => by have := (hl4.lt _ h9).2; omega) hsh z0 z2).mono ?_
    rintro e w5 ⟨g, c', he, ho, hg, hl, hat⟩
    rw [← hPc, ← hPl] at ho
    have hg' := hg
    rw [← HnP.out] at hg' hat
    have hp := Q.put hg' ho hat
    rw [hPl] at hp
    have hne : some (⟨Bq, 0, none⟩ : Addr).block ≠ (Value.slice AP nP cP).ownBlock := fun h9 => own_ne Qrp (Nat.lt_succ_self _) h9.symm
    have e0 := (hg.cell_far ⟨Bq, 0, none⟩ Q.lt hne).trans Q.c0
    rw [HnP.out] at e0
    exact ⟨g, c', he, ⟨e0, (hg.frozen_far ⟨Bq, 0, none⟩ Q.lt hne).trans Q.f0⟩, Lib.hid hp⟩)
  clear hPl hPc HQ4 HLt hpb hpl hgO1 hgO2 hcO hnk
  go_wp2_with fail
  go_region_with (first | (go_at_call 69; (with_reducible refine (HIn.out _ (by repeat (first | assumption | exact kre _ | refine kdr ?_ | refine kal ?_ _)) (by simp) (by simp) (by first | exact shape_n1 _ _ _ _ | exact shape_n2 _ _ _ _) (by simp) (by simp) (by simp)).mono ?_); rintro e w5 ⟨g5, c5, rfl, ⟨e0, z0⟩, HQ5⟩))
  all_goals
    go_wp2_with fail
    go_end0
    first | exact ⟨rfl, _, _, _, _, HQ5.out⟩ | exact ⟨rfl, _, _, _, _, HQ5.out.kp (kdr (kre _))⟩
end Go.Proofs.Ytljbbmefemfjpaa.QtC
