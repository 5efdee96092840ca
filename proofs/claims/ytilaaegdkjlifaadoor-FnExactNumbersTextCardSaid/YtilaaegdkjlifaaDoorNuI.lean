/-
  The text of numbers in the program: differentNumbers, runTexts, numbersText, NumbersText.
-/
import Derived.Test.YtilaaegdkjlifaaDoorNuU
import Derived.Test.YtilaaegdkjlifaaDoorNum
import Derived.Test.YtilaaegdkjlifaaDoorCs
import Derived.Test.YtilaaegdkjlifaaDoorShelf
import Derived.Test.YtilaaegdkjlifaaDoorNuS
import Derived.Deep.RegionHeld3
namespace Go.Proofs.YtilaaegdkjlifaaDoor.Nu
open Go.RowKit Pl NuPl Kpz ReadPl
open Num (Tab)
open Cs (cs cs_snoc cs_len)
set_option linter.unusedSimpArgs false
set_option linter.unusedVariables false

theorem cp_len (zs : List Int) : (Lib.compact zs).length ≤ zs.length := by
  unfold Lib.compact Lib.compactUpTo
  rw [List.length_map]
  exact Nat.le_trans (List.length_filter_le _ _) (by simp)
abbrev msort (W : List Int) : List Int := W.mergeSort fun x y => decide (x ≤ y)
theorem msort_len (W : List Int) : (msort W).length = W.length := List.length_mergeSort _
theorem msort_srt (W : List Int) : Lib.compact (msort W) = srt W := by
  have hs := List.pairwise_mergeSort (le := fun x y : Int => decide (x ≤ y)) (fun a b c h h' => by
      rw [decide_eq_true_eq] at h h' ⊢; omega) (fun a b => by
      rw [Bool.or_eq_true, decide_eq_true_eq, decide_eq_true_eq]; omega) W
  exact cp_srt (hs.imp (fun h => of_decide_eq_true h)) (fun x => List.mem_mergeSort)
theorem own_cut {w : World} {base : Nat} {e : TypeId} {g n c m : Nat} {xs : List Value} (h : w.ownsRow base e 1 (.slice (some ⟨g, 0, none⟩) n c) n xs) (hm : m ≤ n) : w.ownsRow base e 1 (.slice (some ⟨g, 0, none⟩) m c) m (xs.take m) := by
  have hl := h.1
  rcases h.2 with ⟨h0, _⟩ | ⟨g', cap, cur, h0, hb, hg, h1, h2, h3, h4⟩
  · cases h0
  · cases h0
    refine ⟨by rw [List.length_take]; omega, .inr ⟨g, c, cur, rfl, hb, hg, by omega, h2, h3, ?_⟩⟩
    rw [← h4, List.take_take]
    congr 1
    omega
theorem sort_own {w : World} {base : Nat} {e : TypeId} {g c n : Nat} {W : List Int} (h : w.ownsRow base e 1 (.slice (some ⟨g, 0, none⟩) n c) n (W.map encI)) :
    Sort.Holds encI w g 0 W.toArray ∧ g < w.heap.size ∧ base ≤ g ∧ W.length = n ∧ n ≤ c ∧
    ∀ (T : List Int) (q : Nat) (os : Array Obj), T.length = n → (Sort.grow (Sort.putRow encI (Sort.ahead w q) g 0 T.toArray) os).ownsRow base e 1 (.slice (some ⟨g, 0, none⟩) n c) n (T.map encI) ∧ w.grownBy (Sort.grow (Sort.putRow encI (Sort.ahead w q) g 0 T.toArray) os) (some g) := by
  have hl : W.length = n := by have := h.1; simpa using this
  rcases h.2 with ⟨h0, _⟩ | ⟨g', cap, cur, h0, hb, hg, h1, h2, h3, h4⟩
  · cases h0
  · cases h0
    subst hl
    refine ⟨holds_int hg (by simpa using h4), (Array.getElem?_eq_some_iff.1 hg).1, hb, rfl, h1, fun T q os hT => ⟨?_, grown_int _⟩⟩
    exact owns_int hT hb hg h1 h2 h3
theorem sorted_i (g c n : Nat) (W : List Int) (base : Nat) (w : World) (h : w.ownsRow base 3 1 (.slice (some ⟨g, 0, none⟩) n c) n (W.map encI)) (hn : n ≤ 2097152) :
    Calls Tryd.prog 35 #[.slice (some ⟨g, 0, none⟩) n c] w fun e w' => e = .returned (.tuple #[]) ∧ w'.ownsRow base 3 1 (.slice (some ⟨g, 0, none⟩) n c) n ((msort W).map encI) ∧ w.grownBy w' (some g) := by
  obtain ⟨h1, h2, h3, rfl, h5, h6⟩ := sort_own h
  refine (Tryd.sort_Ints g 0 c W w h1 h2 (by omega)).mono ?_
  rintro e w' ⟨rfl, q, os, rfl⟩
  obtain ⟨a, b⟩ := h6 (msort W) q os (msort_len W)
  exact ⟨rfl, a, b⟩
theorem compact_i (g c n : Nat) (Z : List Int) (base : Nat) (w : World) (h : w.ownsRow base 3 1 (.slice (some ⟨g, 0, none⟩) n c) n (Z.map encI)) (hn : n ≤ 2097152) :
    Calls Tryd.prog 36 #[.slice (some ⟨g, 0, none⟩) n c] w fun e w' => e = .returned (.slice (some ⟨g, 0, none⟩) (Lib.compact Z).length c) ∧ w'.ownsRow base 3 1 (.slice (some ⟨g, 0, none⟩) (Lib.compact Z).length c) (Lib.compact Z).length ((Lib.compact Z).map encI) ∧ w.grownBy w' (some g) := by
  obtain ⟨h1, h2, h3, rfl, h5, h6⟩ := sort_own h
  refine (Tryd.slices_Compact_int g 0 c Z w h1 (by omega) h5).mono ?_
  rintro e w' ⟨rfl, q, rfl⟩
  have hc := cp_len Z
  obtain ⟨a, b⟩ := h6 (Lib.compact Z ++ List.replicate (Z.length - (Lib.compact Z).length) 0) q #[] (by rw [List.length_append, List.length_replicate]; omega)
  rw [Sort.grow_empty] at a b
  refine ⟨rfl, ?_, b⟩
  have := own_cut a hc
  rwa [← List.map_take, List.take_left] at this
/-- a copy of a list of numbers, not nil -/
theorem clone_i (A : Option Addr) (c n : Nat) (L : List Int) (w : World) (hr : RdI w A L) (hn : L.length = n) (hm : n ≤ 2097152) (hp : 0 < n) :
    Calls Tryd.prog 34 #[.slice A n c] w fun e w' => ∃ g c', e = .returned (.slice (some ⟨g, 0, none⟩) n c') ∧ w'.ownsRow w.heap.size 3 1 (.slice (some ⟨g, 0, none⟩) n c') n (L.map encI) ∧ Kp w w' := by
  subst hn
  obtain ⟨g, o, rfl, _⟩ := hr 0 L[0] (List.getElem?_eq_getElem hp)
  refine (Tryd.slices_Clone_int g o L.length c L w (Nat.le_refl _) (by omega) (fun j hj => ?_)).mono ?_
  · obtain ⟨g', o', e, hc⟩ := hr j L[j] (List.getElem?_eq_getElem hj)
    cases e
    rw [hc, List.getD_eq_getElem?_getD, List.getElem?_eq_getElem hj]
    rfl
  · rintro e w' ⟨v, rfl, ho, hne, hb⟩
    rw [List.take_length] at ho
    obtain ⟨g1, c1, rfl⟩ := form1 ho hne
    exact ⟨g1, c1, rfl, ho, hb⟩
def DfP (L : List Int) (w : World) (e : Ending) (w' : World) : Prop := ∃ v, e = .returned v ∧ w'.ownsRow w.heap.size 3 1 v (srt L).length ((srt L).map encI) ∧ Kp w w'
set_option maxHeartbeats 2000000 in
theorem differ_i (A : Option Addr) (c n : Nat) (L : List Int) (w : World) (hr : RdI w A L) (hn : L.length = n) (hm : n ≤ 2097152) :
    Calls Tryd.prog 25 #[.slice A n c] w (DfP L w) := by
  by_cases hp : 0 < n
  · have HC := Lib.hid (clone_i A c n L w hr hn hm hp)
    have HE := Lib.hid (msort_srt L)
    have HL := Lib.hid (msort_len L)
    rw [hn] at HL
    clear hr hn
    go_enter Tryd.func25, Tryd.ntmps25
    go_wp2_with fail
    refine HC.out.mono ?_
    rintro e w1 ⟨g, c1, rfl, o1, b1⟩
    have hlt := o1.lt
    go_wp2_with fail
    refine (sorted_i g c1 n L w.heap.size w1 o1 hm).mono ?_
    rintro e w2 ⟨rfl, o2, g2⟩
    have b2 : Kp w w2 := kgr b1 g2 (fun k hk => (hlt k hk).1)
    clear o1 g2
    go_wp2_with fail
    refine (compact_i g c1 n (msort L) w.heap.size w2 o2 hm).mono ?_
    rintro e w3 ⟨rfl, o3, g3⟩
    have b3 : Kp w w3 := kgr b2 g3 (fun k hk => (hlt k hk).1)
    rw [HE.out] at o3 ⊢
    clear o2 g3 b1
    go_wp2_with fail
    go_ret
    exact ⟨_, rfl, o3, b3⟩
  · obtain rfl : n = 0 := by omega
    obtain rfl : L = [] := List.eq_nil_of_length_eq_zero hn
    clear hr hn
    cases A with
    | none =>
      go_enter Tryd.func25, Tryd.ntmps25
      go_wp2_with fail
      refine (Tryd.slices_Clone_int_nil 0 c w).mono ?_
      rintro e w1 ⟨rfl, rfl⟩
      go_wp2_with fail
      refine (Tryd.sort_Ints_none none 0 _).mono ?_
      rintro e w1 ⟨rfl, rfl⟩
      go_wp2_with fail
      refine (Tryd.slices_Compact_int_empty none 0 _).mono ?_
      rintro e w1 ⟨rfl, rfl⟩
      go_wp2_with fail
      go_ret
      exact ⟨_, rfl, World.ownsRow_nil _ _ _ _, kre _⟩
    | some a =>
      go_enter Tryd.func25, Tryd.ntmps25
      go_wp2_with fail
      refine (Tryd.slices_Clone_int_zero a c w).mono ?_
      rintro e w1 ⟨v, rfl, ho, hne, hb⟩
      obtain ⟨g1, c1, rfl⟩ := form1 ho hne
      go_wp2_with fail
      refine (Tryd.sort_Ints_none _ _ _).mono ?_
      rintro e w2 ⟨rfl, hw⟩
      subst hw
      go_wp2_with fail
      refine (Tryd.slices_Compact_int_empty _ _ _).mono ?_
      rintro e w2 ⟨rfl, hw⟩
      subst hw
      go_wp2_with fail
      go_ret
      exact ⟨_, rfl, ho, hb⟩
theorem itoa_i (a : Int) (w : World) (h0 : 1 ≤ a) (h1 : a ≤ 999) (ht : Tab w) : Calls Tryd.prog 37 #[.int .i64 a] w fun e w' => e = .returned (.string (ba (Lib.itoa a))) ∧ Kp w w' :=
  (Tryd.strconv_Itoa a (by omega) (by omega) w ht).mono fun _ _ h => ⟨h.1, by obtain ⟨k, os, hq⟩ := h.2; rw [hq]; exact Num.grow_below w k os⟩
/-- the texts of a run -/
def rtx (R : List Int) : List (List UInt8) := match R with
  | [] => []
  | a :: r => if 3 ≤ (a :: r).length then [T (a, r.length)] else (a :: r).map Lib.itoa
theorem rtx_long {a : Int} {r : List Int} (h : 3 ≤ (a :: r).length) : rtx (a :: r) = [T (a, r.length)] := by
  show (if 3 ≤ (a :: r).length then _ else _) = _
  rw [if_pos h]
theorem rtx_short {a : Int} {r : List Int} (h : ¬ 3 ≤ (a :: r).length) : rtx (a :: r) = (a :: r).map Lib.itoa := by
  show (if 3 ≤ (a :: r).length then _ else _) = _
  rw [if_neg h]
theorem infoStr : (Tryd.prog.info? 9).map (fun i => (i.zero, i.size, i.bytes)) = some (some (.string ByteArray.empty), 1, 16) := by kernel_rfl
def RtP (X : List (List UInt8)) (w : World) (e : Ending) (w' : World) : Prop := ∃ v, e = .returned v ∧ w'.ownsRow w.heap.size 9 1 v X.length (cs X) ∧ Kp w w'
set_option maxRecDepth 100000 in
set_option maxHeartbeats 4000000 in
theorem runTexts_i (A : Option Addr) (c n : Nat) (a : Int) (r : List Int) (w : World) (hr : RdI w A (a :: r)) (hn : (a :: r).length = n) (hm : n ≤ 20) (hv : ∀ x ∈ a :: r, 1 ≤ x ∧ x ≤ 999) (hc : ∀ (j : Nat) (x : Int), (a :: r)[j]? = some x → x = a + (j : Int)) (ht : Tab w) :
    Calls Tryd.prog 27 #[.slice A n c] w (RtP (rtx (a :: r)) w) := by
  obtain ⟨i0, hi, hz0, hz1, hz2⟩ := info_parts infoStr
  have H := Lib.hid hr
  have HN := Lib.hid hn
  have HV := Lib.hid hv
  have HT := Lib.hid (fun w' (hb : Kp w w') => ht.below hb)
  have hn1 : 1 ≤ n := by rw [← hn]; simp
  by_cases h3 : 3 ≤ n
  · obtain ⟨m, hm1⟩ : ∃ m, n = m + 1 := ⟨n - 1, by omega⟩
    have hrl : r.length = m := by simp at hn; omega
    obtain ⟨z, hz⟩ : ∃ z, (a :: r)[m]? = some z := ⟨_, List.getElem?_eq_getElem (by simp; omega)⟩
    have hze := hc m z hz
    obtain ⟨hz1', hz2'⟩ := hv z (List.mem_of_getElem? hz)
    obtain ⟨ha1, ha2⟩ := hv a List.mem_cons_self
    obtain ⟨g, o, rfl, c0⟩ := hr 0 a rfl
    have cm := (hr m z hz).elim fun g' h' => by obtain ⟨o', e', hc'⟩ := h'; cases e'; exact hc'
    have HE : Hid (rtx (a :: r) = [T (a, m)]) := Lib.hid (by rw [rtx_long (by rw [hn]; exact h3), hrl])
    have HTx : Hid ((ba (Lib.itoa a) ++ (⟨#[45]⟩ : ByteArray)) ++ ba (Lib.itoa z) = ba (T (a, m))) := Lib.hid (eq_ba (by
      rw [T_long a m (by omega), cat_ba, cat_ba, toList_ba, toList_ba, hze]; simp))
    have hg : decide ((3 : Int) ≤ (n : Int)) = true := by simp; omega
    have hw1 : IntKind.i64.wrap ((n : Int) - 1) = (m : Int) := by rw [IntWalk.i64_in _ (by omega)]; omega
    have HI1 := Lib.hid (fun w' (hb : Kp w w') => itoa_i a w' ha1 ha2 (ht.below hb))
    have HI2 := Lib.hid (fun w' (hb : Kp w w') => itoa_i z w' hz1' hz2' (ht.below hb))
    have hia := itoa3 ha1 ha2
    have hiz := itoa3 hz1' hz2'
    rw [Nat.add_zero] at c0
    have hgk := lt_cell c0
    have HSS : Hid (∀ w', Kp w w' → (w'.cell? ⟨g, o, none⟩ = some (.int .i64 a) ∧ w'.cell? ⟨g, o + m, none⟩ = some (.int .i64 z)) ∧ Kp w w') := Lib.hid (fun w' h => ⟨⟨(h.cell (p := ⟨g, o, none⟩) hgk).trans c0, (h.cell (p := ⟨g, o + m, none⟩) hgk).trans cm⟩, h⟩)
    have HK0 := Lib.hid (kdr (kre w))
    have hmn : m < n := by omega
    have hn0 : 0 < n := by omega
    clear hr hn hv hc ht hz hze hrl H HN HV HT hz1' hz2' ha1 ha2 hm1
    generalize ba (Lib.itoa a) = ta at *
    generalize ba (Lib.itoa z) = tz at *
    have hoz1 : (ta ++ (⟨#[45]⟩ : ByteArray)).size = ta.size + 1 := by rw [ByteArray.size_append, one45]
    have hoz2 : (ta ++ (⟨#[45]⟩ : ByteArray) ++ tz).size = ta.size + 1 + tz.size := by rw [ByteArray.size_append, hoz1]
    have hL1 : ¬ 9223372036854775807 < ta.size + 1 := by omega
    have hL2 : ¬ 9223372036854775807 < ta.size + 1 + tz.size := by omega
    go_enter Tryd.func27, Tryd.ntmps27
    go_wp2_with fail
    go_region_held3 (fun w' => (w'.cell? ⟨g, o, none⟩ = some (.int .i64 a) ∧ w'.cell? ⟨g, o + m, none⟩ = some (.int .i64 z)) ∧ Kp w w')
      (first | exact HSS.out _ HK0.out | exact HSS.out _ (by assumption) | exact HSS.out _ (kal (by assumption) _))
      (first
        | (go_at_call 37; (with_reducible refine (HI1.out _ (by first | assumption | exact HK0.out)).mono ?_); rintro e wa ⟨rfl, bka⟩; have hka : Kp w wa := ktr (by first | assumption | exact HK0.out) bka; clear bka)
        | (go_at_call 37; (with_reducible refine (HI2.out _ (by first | assumption | exact HK0.out)).mono ?_); rintro e wb ⟨rfl, bkb⟩; have hkb : Kp w wb := ktr (by first | assumption | exact HK0.out) bkb; clear bkb))
    have hown := World.ownsRow_lit (base := w.heap.size) (e := 9) (size := 1) wb #[.string (ta ++ (⟨#[45]⟩ : ByteArray) ++ tz)] 1 hkb.size (by unfold maxLen; omega) rfl
    have hkf : Kp w (wb.alloc (.cells #[.string (ta ++ (⟨#[45]⟩ : ByteArray) ++ tz)] 9)) := kal hkb _
    go_wp2_with fail
    go_ret
    refine ⟨_, rfl, ?_, hkf⟩
    rw [HE.out]
    show World.ownsRow _ _ _ _ _ 1 [.string (ba (T (a, m)))]
    rw [← HTx.out]
    exact hown
  · have HE : Hid (rtx (a :: r) = (a :: r).map Lib.itoa) := Lib.hid (rtx_short (by rw [hn]; exact h3))
    have hg : decide ((3 : Int) ≤ (n : Int)) = false := by simp; omega
    have hB0 : Kp w (w.alloc (.cells #[] 9)) := kal (kre _) _
    have HO0 : Hid ((w.alloc (.cells #[] 9)).ownsRow w.heap.size 9 1 (.slice (some ⟨w.heap.size, 0, none⟩) 0 0) 0 (cs [])) := Lib.hid (World.ownsRow_lit w #[] 0 (Nat.le_refl _) (Nat.zero_le _) rfl)
    clear hr hn hv hc ht h3
    generalize a :: r = R at *
    go_enter Tryd.func27, Tryd.ntmps27
    go_wp2_with fail
    go_loopw [3, 26] (fun v i wr => ∃ k : Nat, k ≤ n ∧ i = .int .i64 k ∧ Hid (wr.ownsRow w.heap.size 9 1 v k (cs ((R.take k).map Lib.itoa))) ∧ Kp w wr) (fun _ i _ => n - (intOf i).toNat)
    case atStart => exact ⟨0, Nat.zero_le _, rfl, by simpa [cs] using HO0, hB0⟩
    case round =>
      obtain ⟨k, hk, rfl, HO, hb⟩ := hrel
      have hsw := ksz hb
      by_cases hlt : k < n
      · obtain ⟨x, hx⟩ : ∃ x, R[k]? = some x := ⟨_, List.getElem?_eq_getElem (by rw [HN.out]; exact hlt)⟩
        obtain ⟨hx1, hx2⟩ := HV.out x (List.mem_of_getElem? hx)
        obtain ⟨g, o, rfl, c0⟩ := (H.out.kp hb) k x hx
        have HI := Lib.hid (itoa_i x wr hx1 hx2 (HT.out _ hb))
        have HC : Hid (cs ((R.take (k + 1)).map Lib.itoa) = cs ((R.take k).map Lib.itoa) ++ [.string (ba (Lib.itoa x))]) := Lib.hid (by
          rw [List.take_add_one, hx]
          simp [cs])
        clear hx
        generalize ba (Lib.itoa x) = tx at *
        go_wp2_with fail
        refine HI.out.mono ?_
        rintro e w1 ⟨rfl, b1⟩
        have hb1 := ktr hb b1
        have o1 := own_kp HO.out b1
        have hs1 := ksz hb1
        clear b1
        go_wp2_with (first
          | (at_builtin; refine wpList_append_own _ rfl _ _ 34 rfl w.heap.size 9 i0 (.string ByteArray.empty) 1 16 Tryd.underlying34 hi hz0 hz1 hz2 rfl (by decide) _ _ _ rfl (o1.alloc _) ⟨w1.heap.size, 0, none⟩ 1 1 [.string tx] rfl rfl (cell_one_new _ _ _) (by simp [Value.oneCell']) (by unfold maxLen; omega) (by omega) (by simp; omega) ?_; intro v' w2 hown' hgrow _))
        have hb2 : Kp w w2 := (hb1.alloc hs1 _).grown hgrow (by simp; omega) (fun q hq => (o1.lt q hq).1)
        go_roundw
        case rel => exact ⟨k + 1, by omega, by go_num, Lib.hid (by rw [HC.out]; exact hown'), hb2⟩
        case measure => (simp [intOf] <;> omega)
      · obtain rfl : k = n := by omega
        have HF : Hid ((R.take k).map Lib.itoa = R.map Lib.itoa) := Lib.hid (by rw [List.take_of_length_le (by rw [HN.out]; exact Nat.le_refl _)])
        have hown := HO.out
        rw [HF.out] at hown
        go_wp2_with fail
        go_ret
        refine ⟨_, rfl, ?_, hb⟩
        rw [HE.out, List.length_map, HN.out]
        exact hown
/-- the end of a list of numbers, from k on -/
theorem elTI : Tryd.prog.underlying 22 = some (.slice (Tryd.prog.elem 22)) := by kernel_rfl
theorem elEI : Tryd.prog.elem 22 = 3 := by kernel_rfl
theorem cut_tailA {A : Option Addr} {i c k : Nat} {L : List Int} {w0 : World} (hr : RdI w0 A L) (hl : L.length = i) (kz : Int) (hz : kz = (k : Int)) (hk : k ≤ i) (hc : i ≤ c) (hp : 0 < i) :
    ∃ A' cc, (∀ w', (Instr.slice 22 (.slice A i c) (some (.int .i64 kz)) none none).run Tryd.prog w' = .ok (.slice A' (i - k) cc) w') ∧ RdI w0 A' (L.drop k) ∧ i - k ≤ cc := by
  subst hz
  obtain ⟨g, o, rfl, _⟩ := hr 0 L[0] (List.getElem?_eq_getElem (by omega))
  by_cases h : c = k
  · refine ⟨some ⟨g, o, none⟩, c - k, fun w' => ?_, ?_, by omega⟩
    · rw [run_slice_l (P := Tryd.prog) w' 22 (some ⟨g, o, none⟩) i c elTI .i64 k (by omega) (by omega), elEI, Tryd.sizeOf3 w']
      simp [Result.andThen, sliced, h]
    · intro j x hx
      rw [List.drop_eq_nil_of_le (by omega)] at hx
      simp at hx
  · refine ⟨some ⟨g, o + k, none⟩, c - k, fun w' => ?_, ?_, by omega⟩
    · rw [run_slice_l (P := Tryd.prog) w' 22 (some ⟨g, o, none⟩) i c elTI .i64 k (by omega) (by omega), elEI, Tryd.sizeOf3 w']
      simp [Result.andThen, sliced, h, Go.WideShapes.add_plain]
    · intro j x hx
      rw [List.getElem?_drop] at hx
      obtain ⟨g', o', e, hc'⟩ := hr (k + j) x hx
      cases e
      exact ⟨g, o + k, rfl, by rw [Nat.add_assoc]; exact hc'⟩
theorem cut_headA {A : Option Addr} {i c k : Nat} {L : List Int} {w0 : World} (hr : RdI w0 A L) (hl : L.length = i) (kz : Int) (hz : kz = (k : Int)) (hk : k ≤ i) (hc : i ≤ c) (hp : 0 < i) :
    (∀ w', (Instr.slice 22 (.slice A i c) none (some (.int .i64 kz)) none).run Tryd.prog w' = .ok (.slice A k c) w') ∧ RdI w0 A (L.take k) := by
  subst hz
  obtain ⟨g, o, rfl, _⟩ := hr 0 L[0] (List.getElem?_eq_getElem (by omega))
  refine ⟨fun w' => ?_, ?_⟩
  · rw [run_slice_h (P := Tryd.prog) w' 22 (some ⟨g, o, none⟩) i c elTI .i64 k (by omega) (by omega), elEI, Tryd.sizeOf3 w']
    simp [Result.andThen, sliced, Go.WideShapes.add_plain]
  · intro j x hx
    rw [List.getElem?_take] at hx
    split at hx
    · exact hr j x hx
    · cases hx
end Go.Proofs.YtilaaegdkjlifaaDoor.Nu
