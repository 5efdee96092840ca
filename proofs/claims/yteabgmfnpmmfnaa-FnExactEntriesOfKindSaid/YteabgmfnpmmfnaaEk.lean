/-
  EntriesOfKind of both; a fresh library's marks.
-/
import Derived.Test.YteabgmfnpmmfnaaLbv
import Derived.Test.YteabgmfnpmmfnaaLbg
import Derived.Test.YteabgmfnpmmfnaaLbz
import Derived.Test.YteabgmfnpmmfnaaL1In
import Derived.Test.YteabgmfnpmmfnaaTmL
import Derived.Test.YteabgmfnpmmfnaaMarks
import Derived.LoopTactic
namespace Go.Proofs.Yteabgmfnpmmfnaa.Ksc
open Go.RowKit Pl NmPl Strs Name Nms Ens Kpz Lbs Dt
set_option linter.unusedSimpArgs false
set_option linter.unusedVariables false

theorem infoStr : (Try.prog.info? 9).map (fun i => (i.zero, i.size, i.bytes)) = some (some (.string ByteArray.empty), 1, 16) := by kernel_rfl
theorem row_add {w : World} {b : Nat} {e : TypeId} {v : Value} {xs : List ByteArray} {x : ByteArray} (h : w.ownsRow b e 1 v (xs.length + 1) (xs.map Value.string ++ [.string x])) : w.ownsRow b e 1 v (xs ++ [x]).length ((xs ++ [x]).map Value.string) := by
  rw [List.map_append, List.length_append]; exact h
theorem row_base {w : World} {b b' : Nat} {e : TypeId} {size : Nat} {v : Value} {n : Nat} {xs : List Value} (h : b' ≤ b) (ho : w.ownsRow b e size v n xs) : w.ownsRow b' e size v n xs := by
  refine ⟨ho.1, ?_⟩
  rcases ho.2 with h' | ⟨g, cap, cur, e1, e2, rest⟩
  · exact .inl h'
  · exact .inr ⟨g, cap, cur, e1, Nat.le_trans h e2, rest⟩
/-- the keys of the entries of a kind -/
def keysK (L : List En) (k : Int) : List ByteArray := (L.filter (fun e => e.kind == k)).map En.key
theorem keysK_take {L : List En} {j : Nat} {x : En} (k : Int) (h : L[j]? = some x) : keysK (L.take (j + 1)) k = keysK (L.take j) k ++ (if x.kind == k then [x.key] else []) := by
  unfold keysK
  rw [List.take_add_one, h, List.filter_append, List.map_append]
  congr 1
  simp only [Option.toList]
  cases hp : (x.kind == k) <;> simp [hp]
theorem keysK_len (L : List En) (k : Int) : (keysK L k).length ≤ L.length := by
  unfold keysK
  rw [List.length_map]
  exact List.length_filter_le _ _
theorem keysK_k {L M : List En} (k : Int) (h : L.map En.key4 = M.map En.key4) : keysK L k = keysK M k := by
  induction L generalizing M with
  | nil => cases M with
    | nil => rfl
    | cons y M => simp at h
  | cons x L ih => cases M with
    | nil => simp at h
    | cons y M =>
      rw [List.map_cons, List.map_cons] at h
      injection h with h1 h2
      have e := ih h2
      simp only [En.key4, Prod.mk.injEq] at h1
      unfold keysK at e ⊢
      rw [List.filter_cons, List.filter_cons, h1.2.1]
      split
      · rw [List.map_cons, List.map_cons, h1.1, e]
      · exact e
def okK (L : List En) (k : Int) : Bool := okLib L && decide (1 ≤ k ∧ k ≤ 4)
/-- what EntriesOfKind answers -/
def ekL (L : List En) (k : Int) : List ByteArray := if okK L k then keysK L k else []
theorem okLib_len {L : List En} (h : okLib L = true) : L.length ≤ 8 := by
  unfold okLib at h
  simp only [Bool.and_eq_true, decide_eq_true_eq] at h
  exact h.1
theorem ekL_len (L : List En) (k : Int) : (ekL L k).length ≤ 8 := by
  unfold ekL
  split
  · rename_i h
    unfold okK at h
    simp only [Bool.and_eq_true, decide_eq_true_eq] at h
    exact Nat.le_trans (keysK_len L k) (okLib_len h.1)
  · simp
theorem okK_k {L M : List En} (k : Int) (h : L.map En.key4 = M.map En.key4) : okK L k = okK M k := by
  unfold okK
  rw [okLib_k h]
theorem ekL_k {L M : List En} (k : Int) (h : L.map En.key4 = M.map En.key4) : ekL L k = ekL M k := by
  unfold ekL
  rw [okK_k k h, keysK_k k h]
/-- what EntriesOfKind answers, and that it owns it -/
def EkP (L : List En) (z : Int) (w : World) (e : Ending) (w' : World) : Prop := ∃ v, e = .returned (.tuple #[v, .bool (okK L z)]) ∧ w'.ownsRow w.heap.size 9 1 v (ekL L z).length ((ekL L z).map Value.string) ∧ Kp w w'
theorem isKind (z : Int) (r : Bool) (w : World) (hr : decide (1 ≤ z ∧ z ≤ 4) = r) : Calls Try.prog 18 #[.int .i64 z] w fun e w' => e = .returned (.bool r) ∧ w = w' := by
  subst hr
  by_cases h1 : 1 ≤ z
  · have HE : Hid (decide (1 ≤ z ∧ z ≤ 4) = decide (z ≤ 4)) := Lib.hid (by simp [h1])
    have hd : decide (1 ≤ z) = true := by simpa using h1
    go_enter Try.func18, Try.ntmps18
    go_wp2_with fail
    go_ret
    exact ⟨by rw [HE.out]; rfl, rfl⟩
  · have HE : Hid (decide (1 ≤ z ∧ z ≤ 4) = false) := Lib.hid (by simp [h1])
    have hd : decide (1 ≤ z) = false := by simpa using h1
    rw [HE.out]
    clear HE
    go_enter Try.func18, Try.ntmps18
    go_wp2_with fail
    go_ret
    exact ⟨rfl, rfl⟩
/-- the numbers of words of a library's names -/
def wds (M : List En) : List (List Nat × List Nat) := M.map fun x => (x.auL.map Nm.n, x.edL.map Nm.n)
theorem fr_es {b0 b1 g : Nat} {w : World} {M : List En} (h : FrE w g M) (h0 : b0 ≤ g) (h1 : w.heap.size ≤ b1) : Tms.Es b0 b1 w (some ⟨g, 0, none⟩) (wds M) := by
  intro j p hj
  unfold wds at hj
  rw [List.getElem?_map] at hj
  obtain ⟨x, hx, rfl⟩ := Option.map_eq_some_iff.1 hj
  obtain ⟨g2, g3, e2, e3, l2, l3, f2, f3, n2, n3⟩ := h.2.1 x (List.mem_of_getElem? hx)
  refine ⟨g, 0, x, rfl, h0, Nat.lt_of_lt_of_le h.2.2.lt h1, h.2.2, (h.1 j x hx).2, ?_, by rw [List.length_map]; exact n2, ?_, by rw [List.length_map]; exact n3⟩
  · rw [e2]; exact Tms.fr_ns' f2 (by omega) h1
  · rw [e3]; exact Tms.fr_ns' f3 (by omega) h1
theorem wds_len (M : List En) : (wds M).length = M.length := by simp [wds]
theorem wds_cnt {w : World} {A : Option Addr} {M : List En} (h : RdE w A M) : Tms.cntL (wds M) ≤ 12 * M.length + 3 * szEs M := by
  have hx : ∀ x ∈ M, Tms.cntE (x.auL.map Nm.n, x.edL.map Nm.n) ≤ 12 + 3 * x.sz := fun x hx => by
    obtain ⟨k, hk, rfl⟩ := List.getElem_of_mem hx
    obtain ⟨r1, r2, r3, r4⟩ := (h k _ (List.getElem?_eq_getElem hk)).1
    have h1 := Tms.cnt_sz r1
    have h2 := Tms.cnt_sz r3
    unfold Tms.cntE En.sz
    dsimp only
    omega
  clear h
  unfold wds
  induction M with
  | nil => simp [Tms.cntL]
  | cons x r ih =>
    have h1 := ih (fun y hy => hx y (List.mem_cons_of_mem _ hy))
    have h2 := hx x (List.mem_cons_self ..)
    have e1 : Tms.cntL ((x :: r).map fun x => (x.auL.map Nm.n, x.edL.map Nm.n)) = Tms.cntE (x.auL.map Nm.n, x.edL.map Nm.n) + Tms.cntL (r.map fun x => (x.auL.map Nm.n, x.edL.map Nm.n)) := by simp [Tms.cntL]
    have e2 : szEs (x :: r) = x.sz + szEs r := by simp [szEs]
    rw [e1, e2, List.length_cons]
    omega
theorem szEs_kk {w w' : World} {A B : Option Addr} {L M : List En} (hM : RdE w B M) (hL : RdE w' A L) (h : M.map En.key4 = L.map En.key4) : szEs M = szEs L := by
  unfold szEs
  congr 1
  refine List.ext_getElem? fun j => ?_
  have hj := congrArg (fun l => l[j]?) h
  simp only [List.getElem?_map] at hj ⊢
  cases hx : M[j]? with
  | none => rw [hx] at hj; cases hy : L[j]? with
    | none => rfl
    | some y => rw [hy] at hj; cases hj
  | some x => rw [hx] at hj; cases hy : L[j]? with
    | none => rw [hy] at hj; cases hj
    | some y =>
      rw [hy] at hj
      simp only [Option.map_some, Option.some.injEq] at hj ⊢
      exact sz_k (hM j x hx).1 (hL j y hy).1 hj
set_option maxRecDepth 100000 in
set_option maxHeartbeats 8000000 in
theorem specE (A : Option Addr) (c N : Nat) (L : List En) (z : Int) (w : World) (h : RdE w A L) (hn : L.length = N) (hm : N ≤ 1048576) (hz : ∀ x ∈ L, x.sz ≤ 1048576) :
    Calls Try.prog 5 #[.agg #[.slice A N c], .int .i64 z] w (EkP L z w) := by
  obtain ⟨i0, hi, hz0, hz1', hz2⟩ := info_parts infoStr
  have hb0 : Kp w (w.alloc (.cells #[.slice A N c] 31)) := kal (kre _) _
  have hc0 : (w.alloc (.cells #[.slice A N c] 31)).cell? ⟨w.heap.size, 0, none⟩ = some (.slice A N c) := by simp
  have hs0 : w.heap.size < (w.alloc (.cells #[.slice A N c] 31)).heap.size := by simp
  have hSZ : (w.alloc (.cells #[.slice A N c] 31)).heap.size = w.heap.size + 1 := by simp
  have HOw : ∀ (W : World) (b : Nat), W.heap.size = b → (W.alloc (.cells #[] 9)).ownsRow W.heap.size 9 1 (.slice (some ⟨b, 0, none⟩) 0 0) 0 [] := fun W b hb => by subst hb; have h9 := World.ownsRow_lit (base := W.heap.size) (e := 9) (size := 1) W #[] 0 (Nat.le_refl _) (Nat.zero_le _) rfl; simpa using h9
  have HV := Lib.hid (fun W (k : Kp w W) => l4Good_any A c N L W (h.below k) hn hm hz)
  unfold EkP
  by_cases hok : okLib L = true
  · have HV := Lib.hid (fun W (k : Kp w W) => by have h9 := HV.out W k; rw [hok] at h9; exact h9)
    have h8 := okLib_len hok
    rw [hn] at h8
    by_cases hkd : 1 ≤ z ∧ z ≤ 4
    · have HE0 : Hid (okK L z = true ∧ ekL L z = keysK L z) := Lib.hid (by have h9 : okK L z = true := by unfold okK; rw [hok]; simpa using hkd
                                                                           exact ⟨h9, if_pos h9⟩)
      rw [HE0.out.1, HE0.out.2]
      have HI := Lib.hid (fun w => l1In_any z 1 4 true w (decide_eq_true hkd))
      have HRd := Lib.hid (fun w' (hk : Kp w w') => h.below hk)
      have HN := Lib.hid hn
      clear h hn hz hok hkd HE0
      go_enter Try.func5, Try.ntmps5
      go_wp2_with fail
      generalize w.alloc (.cells #[.slice A N c] 31) = w0 at hb0 hc0 hs0 hSZ ⊢
      have HC : Hid (∀ W, Kp w0 W → W.cell? ⟨w.heap.size, 0, none⟩ = some (.slice A N c)) := Lib.hid (fun W k => (k.cell (p := ⟨w.heap.size, 0, none⟩) hs0).trans hc0)
      have HB0 := Lib.hid hb0
      have ho1 := HOw w0 _ hSZ
      have k01 : Kp w0 (w0.alloc (.cells #[] 9)) := kal (kre _) _
      generalize w0.alloc (.cells #[] 9) = w01 at ho1 k01 ⊢
      refine (HV.out w01 (ktr HB0.out k01)).mono ?_
      rintro e w1 ⟨rfl, b1⟩
      have k1 : Kp w0 w1 := ktr k01 b1
      have HO1 := Lib.hid (own_kp ho1 b1)
      clear ho1 k01
      have hc1 := HC.out _ k1
      have HK1 := Lib.hid k1
      clear hc0 hs0 hb0 hSZ b1 HV HOw k1
      go_wp2_with fail
      refine (HI.out _).mono ?_
      rintro e w' ⟨rfl, rfl⟩
      go_wp2_with fail
      go_loopw [7, 6] (fun i v wr => ∃ k : Nat, k ≤ N ∧ i = .int .i64 k ∧ Hid (wr.ownsRow w0.heap.size 9 1 v (keysK (L.take k) z).length ((keysK (L.take k) z).map Value.string)) ∧ Kp w0 wr) (fun i _ _ => N - (intOf i).toNat)
      case atStart => exact ⟨0, Nat.zero_le _, rfl, by simpa [keysK] using HO1, HK1.out⟩
      case round =>
        obtain ⟨k, hk, rfl, HO, hb⟩ := hrel
        have HKw : Hid (Kp w wr) := Lib.hid (ktr HB0.out hb)
        have hl0 := HC.out wr (hb)
        by_cases hlt : k < N
        · obtain ⟨x, hx⟩ : ∃ x, L[k]? = some x := ⟨_, List.getElem?_eq_getElem (by rw [HN.out]; exact hlt)⟩
          obtain ⟨-, g, o, rfl, hg, c0, c1, c2, c3, c4, c5, c6, c7, c8, c9, c10, c11, c12, c13⟩ := (HRd.out wr HKw.out) k x hx
          have HKs := Lib.hid (keysK_take z hx)
          have hln : (keysK (L.take k) z).length ≤ 8 := Nat.le_trans (keysK_len _ _) (by rw [List.length_take]; omega)
          obtain ⟨key, kind, auA, auN, auc, auL, edA, edN, edc, edL, ti, co, pu, y, m, d, ci, vol, pa, cr⟩ := x
          dsimp only at c0 c1 c2 c3 c4 c5 c6 c7 c8 c9 c10 c11 c12 c13 HKs
          have hsb := ksz hb
          have HB := Lib.hid hb
          clear hx hb
          by_cases e1 : kind = z
          · have hkz : (kind == z) = true := by rw [e1]; simp
            have HE : Hid (keysK (L.take (k + 1)) z = keysK (L.take k) z ++ [key]) := Lib.hid (by rw [HKs.out, if_pos hkz])
            clear e1
            go_wp2_with (first | (at_builtin; refine wpList_append_own _ rfl _ _ 26 rfl w0.heap.size 9 i0 (.string ByteArray.empty) 1 16 Try.underlying26 hi hz0 hz1' hz2 rfl (by decide) _ _ _ rfl (HO.out.alloc _) ⟨wr.heap.size, 0, none⟩ 1 1 [.string key] rfl rfl (cell_one_new _ _ _) (by simp [Value.oneCell']) (by unfold maxLen; omega) (by omega) (by simp; omega) ?_; intro v' w9 hown' hgrow _))
            have HO3 : Hid (w9.ownsRow w0.heap.size 9 1 v' (keysK (L.take (k + 1)) z).length ((keysK (L.take (k + 1)) z).map Value.string)) := Lib.hid (by rw [HE.out]; exact row_add hown')
            have hb3 : Kp w0 w9 := (HB.out.alloc hsb _).grown hgrow (by simp; omega) (fun q hq => (HO.out.lt q hq).1)
            go_roundw
            case rel => exact ⟨k + 1, by omega, by go_num, HO3, hb3⟩
            case measure => (simp [intOf] <;> omega)
          · have hkz : (kind == z) = false := by rw [beq_eq_false_iff_ne]; exact e1
            have HE : Hid (keysK (L.take (k + 1)) z = keysK (L.take k) z) := Lib.hid (by rw [HKs.out, hkz]; simp)
            clear e1
            go_wp2_with fail
            go_roundw
            case rel => exact ⟨k + 1, by omega, by go_num, by rw [HE.out]; exact HO, HB.out⟩
            case measure => (simp [intOf] <;> omega)
        · obtain rfl : k = N := by omega
          have HE : Hid (keysK (L.take k) z = keysK L z) := Lib.hid (by rw [List.take_of_length_le (by rw [HN.out]; exact Nat.le_refl _)])
          rw [HE.out] at HO
          go_wp2_with fail
          go_ret2
          exact ⟨_, rfl, row_base (ksz HB0.out) HO.out, HKw.out⟩
    · have HE0 : Hid (okK L z = false ∧ ekL L z = []) := Lib.hid (by have h9 : okK L z = false := by unfold okK; rw [hok, decide_eq_false hkd]; rfl
                                                                     exact ⟨h9, by unfold ekL; rw [h9]; rfl⟩)
      rw [HE0.out.1, HE0.out.2]
      have HI := Lib.hid (fun w => l1In_any z 1 4 false w (decide_eq_false hkd))
      clear h hn hz hok hkd HE0
      go_enter Try.func5, Try.ntmps5
      go_wp2_with fail
      generalize w.alloc (.cells #[.slice A N c] 31) = w0 at hb0 hc0 hs0 hSZ ⊢
      have HC : Hid (∀ W, Kp w0 W → W.cell? ⟨w.heap.size, 0, none⟩ = some (.slice A N c)) := Lib.hid (fun W k => (k.cell (p := ⟨w.heap.size, 0, none⟩) hs0).trans hc0)
      have HB0 := Lib.hid hb0
      have ho1 := HOw w0 _ hSZ
      have k01 : Kp w0 (w0.alloc (.cells #[] 9)) := kal (kre _) _
      generalize w0.alloc (.cells #[] 9) = w01 at ho1 k01 ⊢
      refine (HV.out w01 (ktr HB0.out k01)).mono ?_
      rintro e w1 ⟨rfl, b1⟩
      have k1 : Kp w0 w1 := ktr k01 b1
      have HO1 := Lib.hid (own_kp ho1 b1)
      clear ho1 k01
      have hc1 := HC.out _ k1
      have HK1 := Lib.hid k1
      clear hc0 hs0 hb0 hSZ b1 HV HOw k1
      go_wp2_with fail
      refine (HI.out _).mono ?_
      rintro e w' ⟨rfl, rfl⟩
      go_wp2_with fail
      go_ret2
      exact ⟨_, rfl, row_base (ksz HB0.out) HO1.out, ktr HB0.out HK1.out⟩
  · have hok' : okLib L = false := by simpa using hok
    have HE0 : Hid (okK L z = false ∧ ekL L z = []) := Lib.hid (by have h9 : okK L z = false := by unfold okK; rw [hok']; rfl
                                                                   exact ⟨h9, by unfold ekL; rw [h9]; rfl⟩)
    rw [HE0.out.1, HE0.out.2]
    have HV := Lib.hid (fun W (k : Kp w W) => by have h9 := HV.out W k; rw [hok'] at h9; exact h9)
    clear h hn hz hok hok' HE0
    go_enter Try.func5, Try.ntmps5
    go_wp2_with fail
    generalize w.alloc (.cells #[.slice A N c] 31) = w0 at hb0 hc0 hs0 hSZ ⊢
    have HC : Hid (∀ W, Kp w0 W → W.cell? ⟨w.heap.size, 0, none⟩ = some (.slice A N c)) := Lib.hid (fun W k => (k.cell (p := ⟨w.heap.size, 0, none⟩) hs0).trans hc0)
    have HB0 := Lib.hid hb0
    have ho1 := HOw w0 _ hSZ
    have k01 : Kp w0 (w0.alloc (.cells #[] 9)) := kal (kre _) _
    generalize w0.alloc (.cells #[] 9) = w01 at ho1 k01 ⊢
    refine (HV.out w01 (ktr HB0.out k01)).mono ?_
    rintro e w1 ⟨rfl, b1⟩
    have k1 : Kp w0 w1 := ktr k01 b1
    have HO1 := Lib.hid (own_kp ho1 b1)
    clear ho1 k01
    have hc1 := HC.out _ k1
    have HK1 := Lib.hid k1
    clear hc0 hs0 hb0 hSZ b1 HV HOw k1
    go_wp2_with fail
    go_ret2
    exact ⟨_, rfl, row_base (ksz HB0.out) HO1.out, ktr HB0.out HK1.out⟩
set_option maxRecDepth 100000 in
set_option maxHeartbeats 8000000 in
theorem implE (A : Option Addr) (c N : Nat) (L : List En) (z : Int) (w : World) (h : RdE w A L) (hn : L.length = N) (hm : N ≤ 1048576) (hz : ∀ x ∈ L, x.sz ≤ 1048576) :
    Calls Try.prog 7 #[.agg #[.slice A N c], .int .i64 z] w (EkP L z w) := by
  obtain ⟨i0, hi, hz0, hz1', hz2⟩ := info_parts infoStr
  have hb0 : Kp w (w.alloc (.cells #[.slice A N c] 31)) := kal (kre _) _
  have hc0 : (w.alloc (.cells #[.slice A N c] 31)).cell? ⟨w.heap.size, 0, none⟩ = some (.slice A N c) := by simp
  have hs0 : w.heap.size < (w.alloc (.cells #[.slice A N c] 31)).heap.size := by simp
  have hSZ : (w.alloc (.cells #[.slice A N c] 31)).heap.size = w.heap.size + 1 := by simp
  have HOw : ∀ (W : World) (b : Nat), W.heap.size = b → (W.alloc (.cells #[] 9)).ownsRow W.heap.size 9 1 (.slice (some ⟨b, 0, none⟩) 0 0) 0 [] := fun W b hb => by subst hb; have h9 := World.ownsRow_lit (base := W.heap.size) (e := 9) (size := 1) W #[] 0 (Nat.le_refl _) (Nat.zero_le _) rfl; simpa using h9
  have HV := Lib.hid (fun W (k : Kp w W) => isValidL A c N L W (h.below k) hn hm hz)
  unfold EkP
  by_cases hok : okLib L = true
  · have HV := Lib.hid (fun W (k : Kp w W) => by have h9 := HV.out W k; rw [hok] at h9; exact h9)
    have h8 := okLib_len hok
    rw [hn] at h8
    by_cases hkd : 1 ≤ z ∧ z ≤ 4
    · have HE0 : Hid (okK L z = true ∧ ekL L z = keysK L z) := Lib.hid (by have h9 : okK L z = true := by unfold okK; rw [hok]; simpa using hkd
                                                                           exact ⟨h9, if_pos h9⟩)
      rw [HE0.out.1, HE0.out.2]
      have HI := Lib.hid (fun w => isKind z true w (decide_eq_true hkd))
      have HRd := Lib.hid (fun w' (hk : Kp w w') => h.below hk)
      have HN := Lib.hid hn
      clear h hn hz hok hkd HE0
      go_enter Try.func7, Try.ntmps7
      go_wp2_with fail
      generalize w.alloc (.cells #[.slice A N c] 31) = w0 at hb0 hc0 hs0 hSZ ⊢
      have HC : Hid (∀ W, Kp w0 W → W.cell? ⟨w.heap.size, 0, none⟩ = some (.slice A N c)) := Lib.hid (fun W k => (k.cell (p := ⟨w.heap.size, 0, none⟩) hs0).trans hc0)
      have HB0 := Lib.hid hb0
      refine (HV.out w0 HB0.out).mono ?_
      rintro e w1 ⟨rfl, b1⟩
      have k1 : Kp w0 w1 := b1
      have hc1 := HC.out _ k1
      have HK1 := Lib.hid k1
      clear hc0 hs0 hb0 hSZ b1 HV HOw k1
      go_wp2_with fail
      refine (HI.out _).mono ?_
      rintro e w' ⟨rfl, rfl⟩
      have hc2 := HC.out (w1.alloc (.cells #[] 9)) (kal HK1.out _)
      go_wp2_with fail
      go_loopw [22, 6] (fun i v wr => ∃ k : Nat, k ≤ N ∧ i = .int .i64 k ∧ Hid (wr.ownsRow w1.heap.size 9 1 v (keysK (L.take k) z).length ((keysK (L.take k) z).map Value.string)) ∧ Kp w1 wr) (fun i _ _ => N - (intOf i).toNat)
      case atStart => exact ⟨0, Nat.zero_le _, rfl, Lib.hid (by have h9 := World.ownsRow_lit (base := w1.heap.size) (e := 9) (size := 1) w1 #[] 0 (Nat.le_refl _) (Nat.zero_le _) rfl; simpa [keysK] using h9), kal (kre _) _⟩
      case round =>
        obtain ⟨k, hk, rfl, HO, hb⟩ := hrel
        have HKw : Hid (Kp w wr) := Lib.hid (ktr (ktr HB0.out HK1.out) hb)
        have hl0 := HC.out wr (ktr HK1.out hb)
        by_cases hlt : k < N
        · obtain ⟨x, hx⟩ : ∃ x, L[k]? = some x := ⟨_, List.getElem?_eq_getElem (by rw [HN.out]; exact hlt)⟩
          obtain ⟨-, g, o, rfl, hg, c0, c1, c2, c3, c4, c5, c6, c7, c8, c9, c10, c11, c12, c13⟩ := (HRd.out wr HKw.out) k x hx
          have HKs := Lib.hid (keysK_take z hx)
          have hln : (keysK (L.take k) z).length ≤ 8 := Nat.le_trans (keysK_len _ _) (by rw [List.length_take]; omega)
          obtain ⟨key, kind, auA, auN, auc, auL, edA, edN, edc, edL, ti, co, pu, y, m, d, ci, vol, pa, cr⟩ := x
          dsimp only at c0 c1 c2 c3 c4 c5 c6 c7 c8 c9 c10 c11 c12 c13 HKs
          have hsb := ksz hb
          have HB := Lib.hid hb
          have HX := Lib.hid (E14.new wr (⟨key, kind, auA, auN, auc, auL, edA, edN, edc, edL, ti, co, pu, y, m, d, ci, vol, pa, cr⟩ : En) 45)
          clear hx hb
          go_upto_region 7 with fail
          generalize hW : wr.alloc (.cells #[.string key, .int .i64 kind, .slice auA auN auc, .slice edA edN edc, .string ti, .string co, .string pu, .int .i64 y, .int .i64 m, .int .i64 d, .bool ci, .int .i64 vol, .string pa, .string cr] 45) = w5 at HX ⊢
          have k5 : Kp wr w5 := by rw [← hW]; exact kal (kre _) _
          have d0 := HX.out.2.1
          have d1 := HX.out.2.2.1
          dsimp only at d0 d1
          have HB5 := Lib.hid (ktr HB.out k5)
          have HO5 := Lib.hid (own_kp HO.out k5)
          have hs5 := ksz HB5.out
          clear hW c0 c1 c2 c3 c4 c5 c6 c7 c8 c9 c10 c11 c12 c13 hl0 HX k5
          by_cases e1 : kind = z
          · have hkz : (kind == z) = true := by rw [e1]; simp
            have HE : Hid (keysK (L.take (k + 1)) z = keysK (L.take k) z ++ [key]) := Lib.hid (by rw [HKs.out, if_pos hkz])
            clear e1
            go_wp2_with (first | (at_builtin; refine wpList_append_own _ rfl _ _ 26 rfl w1.heap.size 9 i0 (.string ByteArray.empty) 1 16 Try.underlying26 hi hz0 hz1' hz2 rfl (by decide) _ _ _ rfl (HO5.out.alloc _) ⟨w5.heap.size, 0, none⟩ 1 1 [.string key] rfl rfl (cell_one_new _ _ _) (by simp [Value.oneCell']) (by unfold maxLen; omega) (by omega) (by simp; omega) ?_; intro v' w9 hown' hgrow _))
            have HO3 : Hid (w9.ownsRow w1.heap.size 9 1 v' (keysK (L.take (k + 1)) z).length ((keysK (L.take (k + 1)) z).map Value.string)) := Lib.hid (by rw [HE.out]; exact row_add hown')
            have hb3 : Kp w1 w9 := (HB5.out.alloc hs5 _).grown hgrow (by simp; omega) (fun q hq => (HO5.out.lt q hq).1)
            go_roundw
            case rel => exact ⟨k + 1, by omega, by go_num, HO3, hb3⟩
            case measure => (simp [intOf] <;> omega)
          · have hkz : (kind == z) = false := by rw [beq_eq_false_iff_ne]; exact e1
            have HE : Hid (keysK (L.take (k + 1)) z = keysK (L.take k) z) := Lib.hid (by rw [HKs.out, hkz]; simp)
            clear e1
            go_wp2_with fail
            go_roundw
            case rel => exact ⟨k + 1, by omega, by go_num, by rw [HE.out]; exact HO5, HB5.out⟩
            case measure => (simp [intOf] <;> omega)
        · obtain rfl : k = N := by omega
          have HE : Hid (keysK (L.take k) z = keysK L z) := Lib.hid (by rw [List.take_of_length_le (by rw [HN.out]; exact Nat.le_refl _)])
          rw [HE.out] at HO
          go_wp2_with fail
          go_ret2
          exact ⟨_, rfl, row_base (ksz (ktr HB0.out HK1.out)) HO.out, HKw.out⟩
    · have HE0 : Hid (okK L z = false ∧ ekL L z = []) := Lib.hid (by have h9 : okK L z = false := by unfold okK; rw [hok, decide_eq_false hkd]; rfl
                                                                     exact ⟨h9, by unfold ekL; rw [h9]; rfl⟩)
      rw [HE0.out.1, HE0.out.2]
      have HI := Lib.hid (fun w => isKind z false w (decide_eq_false hkd))
      clear h hn hz hok hkd HE0
      go_enter Try.func7, Try.ntmps7
      go_wp2_with fail
      generalize w.alloc (.cells #[.slice A N c] 31) = w0 at hb0 hc0 hs0 hSZ ⊢
      have HC : Hid (∀ W, Kp w0 W → W.cell? ⟨w.heap.size, 0, none⟩ = some (.slice A N c)) := Lib.hid (fun W k => (k.cell (p := ⟨w.heap.size, 0, none⟩) hs0).trans hc0)
      have HB0 := Lib.hid hb0
      refine (HV.out w0 HB0.out).mono ?_
      rintro e w1 ⟨rfl, b1⟩
      have k1 : Kp w0 w1 := b1
      have hc1 := HC.out _ k1
      have HK1 := Lib.hid k1
      clear hc0 hs0 hb0 hSZ b1 HV HOw k1
      go_wp2_with fail
      refine (HI.out _).mono ?_
      rintro e w' ⟨rfl, rfl⟩
      go_wp2_with fail
      go_ret2
      refine ⟨_, rfl, row_base (ksz (ktr HB0.out HK1.out)) (by have h9 := World.ownsRow_lit (base := w1.heap.size) (e := 9) (size := 1) w1 #[] 0 (Nat.le_refl _) (Nat.zero_le _) rfl; simpa using h9), kal (ktr HB0.out HK1.out) _⟩
  · have hok' : okLib L = false := by simpa using hok
    have HE0 : Hid (okK L z = false ∧ ekL L z = []) := Lib.hid (by have h9 : okK L z = false := by unfold okK; rw [hok']; rfl
                                                                   exact ⟨h9, by unfold ekL; rw [h9]; rfl⟩)
    rw [HE0.out.1, HE0.out.2]
    have HV := Lib.hid (fun W (k : Kp w W) => by have h9 := HV.out W k; rw [hok'] at h9; exact h9)
    clear h hn hz hok hok' HE0
    go_enter Try.func7, Try.ntmps7
    go_wp2_with fail
    generalize w.alloc (.cells #[.slice A N c] 31) = w0 at hb0 hc0 hs0 hSZ ⊢
    have HC : Hid (∀ W, Kp w0 W → W.cell? ⟨w.heap.size, 0, none⟩ = some (.slice A N c)) := Lib.hid (fun W k => (k.cell (p := ⟨w.heap.size, 0, none⟩) hs0).trans hc0)
    have HB0 := Lib.hid hb0
    refine (HV.out w0 HB0.out).mono ?_
    rintro e w1 ⟨rfl, b1⟩
    have k1 : Kp w0 w1 := b1
    have hc1 := HC.out _ k1
    have HK1 := Lib.hid k1
    clear hc0 hs0 hb0 hSZ b1 HV HOw k1
    go_wp2_with fail
    go_ret2
    refine ⟨_, rfl, row_base (ksz (ktr HB0.out HK1.out)) (by have h9 := World.ownsRow_lit (base := w1.heap.size) (e := 9) (size := 1) w1 #[] 0 (Nat.le_refl _) (Nat.zero_le _) rfl; simpa using h9), kal (ktr HB0.out HK1.out) _⟩
end Go.Proofs.Yteabgmfnpmmfnaa.Ksc
