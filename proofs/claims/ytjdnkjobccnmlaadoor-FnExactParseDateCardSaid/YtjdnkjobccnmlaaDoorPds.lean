/-
  Contract of ParseDate of the model.
-/
import Derived.Test.YtjdnkjobccnmlaaDoorPd
import Derived.Test.YtjdnkjobccnmlaaDoorSplit
import Derived.Test.YtjdnkjobccnmlaaDoorStrs
import Derived.Test.YtjdnkjobccnmlaaDoorPart
import Derived.LoopTactic
import Derived.Deep.DeepCutAuto
namespace Go.Proofs.YtjdnkjobccnmlaaDoor.Pd
open Go.RowKit Pl Stands SplitPl NmPl ReadPl DtPl Dt DtTx PdPl Num DtF _root_.Go.Proofs.YtjdnkjobccnmlaaDoor.Read Cut Strs
set_option linter.unusedSimpArgs false
set_option linter.unusedVariables false

theorem text_len {s : ByteArray} (hs : s ≠ ba unk) {y m d : Int} {c : Bool} (hk : okB y m d c = true) (h : s = ba (text y m d c)) : (split 45 (tl s.data.toList)).length ≤ 3 := by
  have h1 := read_text hk (not_unk hs h)
  subst h
  rw [toList_ba]
  exact h1.2.2.2
theorem cc_yes {s : ByteArray} (h : cc s.data.toList = true) : ∃ hp : 0 < s.size, ((s[0].toNat : Int) == 99) = true ∧ s.extract 1 s.size = ba (tl s.data.toList) := by
  cases hl : s.data.toList with
  | nil => rw [hl] at h; cases h
  | cons c l =>
    rw [hl] at h
    have hc : c = 99 := by simpa [cc] using h
    subst hc
    have hz := len_size s
    rw [hl] at hz
    simp at hz
    have h0 : 0 < s.size := by omega
    have hc : s[0] = 99 := by
      have : s.data.toList[0]? = some 99 := by rw [hl]; rfl
      rw [Array.getElem?_toList] at this
      exact (Array.getElem?_eq_some_iff.1 this).2
    refine ⟨h0, by rw [hc]; rfl, ?_⟩
    rw [extract1 s hl]
    rfl
theorem ne_of_pos {s : ByteArray} (h : 0 < s.size) : (s.toList == []) = false ∧ s.toList.isEmpty = false := by
  have hn : s.data.toList ≠ [] := by intro e; have := len_size s; rw [e] at this; simp at this; omega
  rw [Lib.toList_data]
  exact ⟨by rw [beq_eq_false_iff_ne]; exact hn, List.isEmpty_eq_false_iff.2 hn⟩
theorem cc_ne {s : ByteArray} (h : cc s.data.toList = true) : (s.toList == []) = false ∧ s.toList.isEmpty = false := by
  obtain ⟨hp, _⟩ := cc_yes h
  exact ne_of_pos hp
theorem cc_no {s : ByteArray} (h : cc s.data.toList = false) : ba (tl s.data.toList) = s := by
  unfold tl
  rw [h]
  exact ba_toList s
theorem cc_head {s : ByteArray} (h : cc s.data.toList = false) : ((s.toList == []) = true ∧ s.toList.isEmpty = true) ∨ ∃ hp : 0 < s.size, ((s[0].toNat : Int) == 99) = false ∧ (s.toList == []) = false ∧ s.toList.isEmpty = false := by
  by_cases hp : 0 < s.size
  · right
    refine ⟨hp, ?_, ne_of_pos hp⟩
    rw [beq_eq_false_iff_ne]
    intro e
    have hc : s[0] = 99 := UInt8.toNat_inj.1 (show s[0].toNat = 99 by omega)
    have : s.data.toList[0]? = some 99 := by
      rw [Array.getElem?_toList, Array.getElem?_eq_getElem (show 0 < s.data.size from hp)]
      exact congrArg some hc
    rw [← Bool.not_eq_true] at h
    refine h ?_
    unfold cc
    rw [List.head?_eq_getElem?, this]
    rfl
  · left
    have : s.data.toList = [] := List.eq_nil_of_length_eq_zero (by rw [len_size]; omega)
    rw [Lib.toList_data, this]
    exact ⟨rfl, rfl⟩

/-- block b holds the first k numbers and noughts behind them -/
def Num3 (W : World) (b : Nat) (L : List (List UInt8)) (k : Nat) : Prop := b < W.heap.size ∧ ∀ j, j < 3 → W.cell? ⟨b, j, none⟩ = some (.int .i64 (if j < k then nth L j else 0)) ∧ W.frozen? ⟨b, j, none⟩ = false
theorem num3_new (w : World) (L : List (List UInt8)) (t : TypeId) : Num3 (w.alloc (.cells #[.int .i64 0, .int .i64 0, .int .i64 0] t)) w.heap.size L 0 := by
  refine ⟨by simp, fun j hj => ?_⟩
  rcases j with _ | _ | _ | j
  all_goals first | omega | exact ⟨by simp, by simp⟩
theorem num3_at {W : World} {b : Nat} {L : List (List UInt8)} {k : Nat} (h : Num3 W b L k) (hk : k < 3) : b < W.heap.size ∧ W.cell? ⟨b, k, none⟩ = some (.int .i64 0) ∧ W.frozen? ⟨b, k, none⟩ = false := by
  obtain ⟨h1, h2⟩ := h.2 k hk
  rw [if_neg (Nat.lt_irrefl k)] at h1
  exact ⟨h.1, h1, h2⟩
theorem num3_set {W : World} {b : Nat} {L : List (List UInt8)} {k : Nat} (h : Num3 W b L k) (hk : k < 3) : Num3 (W.setCell ⟨b, k, none⟩ (.int .i64 (nth L k))) b L (k + 1) := by
  refine ⟨by simpa [World.setCell] using h.1, fun j hj => ⟨?_, by rw [World.frozen?_setCell]; exact (h.2 j hj).2⟩⟩
  by_cases e : j = k
  · subst e
    rw [if_pos (Nat.lt_succ_self j)]
    exact World.cell?_setCell_same W _ _ (h.2 j hj).1
  · rw [c_ne (fun e' => e e'.symm), (h.2 j hj).1]
    by_cases hjk : j < k
    · rw [if_pos hjk, if_pos (by omega)]
    · rw [if_neg hjk, if_neg (by omega)]
theorem num3_all {W : World} {b : Nat} {L : List (List UInt8)} {k : Nat} (h : Num3 W b L k) (hk : L.length ≤ k) :
    b < W.heap.size ∧ W.cell? ⟨b, 0, none⟩ = some (.int .i64 (nth L 0)) ∧ W.cell? ⟨b, 1, none⟩ = some (.int .i64 (nth L 1)) ∧ W.cell? ⟨b, 2, none⟩ = some (.int .i64 (nth L 2)) := by
  have key : ∀ j, (if j < k then nth L j else 0) = nth L j := by
    intro j
    by_cases hj : j < k
    · rw [if_pos hj]
    · rw [if_neg hj]
      unfold nth
      rw [List.getElem?_eq_none (by omega)]
  refine ⟨h.1, ?_, ?_, ?_⟩
  · rw [(h.2 0 (by decide)).1, key]
  · rw [(h.2 1 (by decide)).1, key]
  · rw [(h.2 2 (by decide)).1, key]
theorem set3 {W w1 : World} {b : Nat} {v0 v1 v2 : Value} (h : Below W.heap.size W w1) (hb : W.heap.size ≤ b) : Below W.heap.size W (((w1.setCell ⟨b, 0, none⟩ v0).setCell ⟨b, 1, none⟩ v1).setCell ⟨b, 2, none⟩ v2) :=
  ((h.setCell (p := ⟨b, 0, none⟩) hb _).setCell (p := ⟨b, 1, none⟩) hb _).setCell (p := ⟨b, 2, none⟩) hb _
theorem _root_.Go.Proofs.YtjdnkjobccnmlaaDoor.Dt.D4F.set3 {W : World} {b : Nat} {y m d : Int} {c : Bool} (h : D4F W b y m d c) (y' m' d' : Int) : D4 (((W.setCell ⟨b, 0, none⟩ (.int .i64 y')).setCell ⟨b, 1, none⟩ (.int .i64 m')).setCell ⟨b, 2, none⟩ (.int .i64 d')) b y' m' d' c := by
  obtain ⟨⟨hl, h0, h1, h2, h3⟩, _⟩ := h
  refine ⟨by simpa [World.setCell] using hl, ?_, ?_, ?_, ?_⟩
  · rw [c_ne (by decide), c_ne (by decide)]; exact World.cell?_setCell_same _ _ _ h0
  · rw [c_ne (by decide)]; exact World.cell?_setCell_same _ _ _ (by rw [c_ne (by decide)]; exact h1)
  · exact World.cell?_setCell_same _ _ _ (by rw [c_ne (by decide), c_ne (by decide)]; exact h2)
  · rw [c_ne (by decide), c_ne (by decide), c_ne (by decide)]; exact h3
theorem far1 {W : World} {b b' i j : Nat} {v : Value} (h : b ≠ b') : (W.setCell ⟨b, i, none⟩ v).cell? ⟨b', j, none⟩ = W.cell? ⟨b', j, none⟩ := World.cell?_setCell_other W _ _ _ (fun e => h (by cases e; rfl))
theorem _root_.Go.Proofs.YtjdnkjobccnmlaaDoor.Dt.D4F.far3 {W : World} {b b' : Nat} {y m d : Int} {c : Bool} {v0 v1 v2 : Value} (hne : b ≠ b') (h : D4F W b' y m d c) : D4F (((W.setCell ⟨b, 0, none⟩ v0).setCell ⟨b, 1, none⟩ v1).setCell ⟨b, 2, none⟩ v2) b' y m d c := by
  obtain ⟨⟨hl, h0, h1, h2, h3⟩, g0, g1, g2, g3⟩ := h
  refine ⟨⟨by simpa [World.setCell] using hl, ?_, ?_, ?_, ?_⟩, ?_, ?_, ?_, ?_⟩
  · rw [far1 hne, far1 hne, far1 hne]; exact h0
  · rw [far1 hne, far1 hne, far1 hne]; exact h1
  · rw [far1 hne, far1 hne, far1 hne]; exact h2
  · rw [far1 hne, far1 hne, far1 hne]; exact h3
  all_goals rw [World.frozen?_setCell, World.frozen?_setCell, World.frozen?_setCell]; assumption
theorem twoZ (w : World) (C : Bool) (t : TypeId) :
    Below w.heap.size w ((w.alloc (.cells #[.int .i64 0, .int .i64 0, .int .i64 0, .bool false] t)).alloc (.cells #[.int .i64 0, .int .i64 0, .int .i64 0, .bool C] t)) ∧
    D4F ((w.alloc (.cells #[.int .i64 0, .int .i64 0, .int .i64 0, .bool false] t)).alloc (.cells #[.int .i64 0, .int .i64 0, .int .i64 0, .bool C] t)) w.heap.size 0 0 0 false ∧
    D4F ((w.alloc (.cells #[.int .i64 0, .int .i64 0, .int .i64 0, .bool false] t)).alloc (.cells #[.int .i64 0, .int .i64 0, .int .i64 0, .bool C] t)) (w.heap.size + 1) 0 0 0 C := by
  have h1 := D4F.new w 0 0 0 false t
  have h2 := D4F.new (w.alloc (.cells #[.int .i64 0, .int .i64 0, .int .i64 0, .bool false] t)) 0 0 0 C t
  have e : (w.alloc (.cells #[.int .i64 0, .int .i64 0, .int .i64 0, .bool false] t)).heap.size = w.heap.size + 1 := by simp
  rw [e] at h2
  have b1 := box_below w (.cells #[.int .i64 0, .int .i64 0, .int .i64 0, .bool false] t)
  have b2 := box_below (w.alloc (.cells #[.int .i64 0, .int .i64 0, .int .i64 0, .bool false] t)) (.cells #[.int .i64 0, .int .i64 0, .int .i64 0, .bool C] t)
  exact ⟨b1.trans (b2.mono b1.size), D4F.below b2 h1, h2⟩

set_option maxRecDepth 100000 in
set_option maxHeartbeats 8000000 in
theorem modelParse (s : ByteArray) (w : World) (hs : s.size ≤ 1048576) :
    Calls Tryd.prog 57 #[.string s] w fun e w' => ∃ v, AnsD s v ∧ e = .returned v ∧ Below w.heap.size w w' := by
  by_cases hu : s = ba unk
  · subst hu
    have HP := Lib.hid ans_unk
    generalize hx : ba unk = x at *
    have hx' : (x.toList == [117, 110, 107, 110, 111, 119, 110]) = true := by rw [← hx, Lib.toList_data]; decide
    have HX := Lib.hid hx
    clear hx
    obtain ⟨hB, hZ, hD⟩ := twoZ w false 23
    have HB := Lib.hid hB
    obtain ⟨⟨hl, z0, z1, z2, z3⟩, f0, f1, f2, f3⟩ := hZ
    obtain ⟨⟨dl, d0, d1, d2, d3⟩, df0, df1, df2, df3⟩ := hD
    clear hB
    go_enter Tryd.func57, Tryd.ntmps57
    go_wp2_with fail
    exact bodyPost_ret (v := .tuple #[dtV 0 0 0 false, .bool true]) (by simp [results, Tryd.results57, go_sem, *]) rfl ⟨_, HP.out, rfl, HB.out⟩
  · have hne := ne_unk hu
    have HRd0 := Lib.hid (rd_model hu)
    have HLen := Lib.hid (fun y m d c hk (h : s = ba (text y m d c)) => (text_len hu hk h))
    have HSp0 := Lib.hid (fun w => Split.l1Split_any (ba (tl s.data.toList)) 45 w (by rw [ba_size]; have := tl_len s.data.toList; rw [len_size] at this; omega))
    rw [toList_ba] at HSp0
    have HSz0 : Hid (∀ x ∈ split 45 (tl s.data.toList), x.length ≤ 1048576) := Lib.hid (fun x hx => by have := Part.split_el 45 (tl s.data.toList) x hx; have := tl_len s.data.toList; rw [len_size] at this; omega)
    have HU : Hid (∀ M D : Int, ∀ C : Bool, ba (text 0 M D C) ≠ s) := Lib.hid (fun M D C h => hu (by rw [← h]; rfl))
    cases hcc : cc s.data.toList with
    | true =>
      obtain ⟨hp, h99, hcut⟩ := cc_yes hcc
      obtain ⟨hne1, hne2⟩ := cc_ne hcc
      obtain ⟨hB, hZ, hD⟩ := twoZ w true 23
      have HB := Lib.hid hB
      have HZ := Lib.hid hZ
      have HD := Lib.hid hD
      clear hB hZ hD
      have HRd : Hid (RdD s (rdY 0 s.data.toList) (rdY 1 s.data.toList) (rdY 2 s.data.toList) true) := Lib.hid (by have := HRd0.out; rw [hcc] at this; exact this)
      have HY : Hid (nth (split 45 (tl s.data.toList)) 0 = rdY 0 s.data.toList) := Lib.hid rfl
      have HM : Hid (nth (split 45 (tl s.data.toList)) 1 = rdY 1 s.data.toList) := Lib.hid rfl
      have HDy : Hid (nth (split 45 (tl s.data.toList)) 2 = rdY 2 s.data.toList) := Lib.hid rfl
      have HSp := HSp0
      have HSz := HSz0
      have hnr := HLen.out
      generalize rdY 0 s.data.toList = Y at *
      generalize rdY 1 s.data.toList = M at *
      generalize rdY 2 s.data.toList = D at *
      have HR0 : Hid (Y = 0 → AnsD s (.tuple #[dtV 0 0 0 false, .bool false])) := Lib.hid (fun h => HRd.out.no (fun _ => by rw [h]; exact HU.out _ _ _))
      generalize split 45 (tl s.data.toList) = L at *
      generalize ba (tl s.data.toList) = sT at *
      clear hcc HSp0 HSz0 HLen HU HRd0 hu
      go_enter Tryd.func57, Tryd.ntmps57
      go_wp2_with fail
      generalize (w.alloc (.cells #[.int .i64 0, .int .i64 0, .int .i64 0, .bool false] 23)).alloc (.cells #[.int .i64 0, .int .i64 0, .int .i64 0, .bool true] 23) = w0 at *
      refine (HSp.out _).mono ?_
      rintro e w1 ⟨v, rfl, o1, b1⟩
      have k1 := HB.out.trans (b1.mono HB.out.size)
      have HZ1 := Lib.hid (D4F.below b1 HZ.out)
      have HD1 := Lib.hid (D4F.below b1 HD.out)
      clear b1 HZ HD
      obtain ⟨A, cp, rfl, _, rd, hA⟩ := own_rds (xs := L.map ba) (show w1.ownsRow _ 9 1 v L.length ((L.map ba).map Value.string) by rw [List.map_map]; exact o1)
      have RD := Lib.hid rd
      have HA := Lib.hid hA
      clear rd o1 hA
      obtain ⟨n, HN⟩ : ∃ n, Hid (n = L.length) := ⟨_, Lib.hid rfl⟩
      rw [← HN.out]
      have HNr := Lib.hid hnr
      clear hnr
      by_cases h3 : n ≤ 3
      · have HZ2 := Lib.hid (D4F.below (box_below w1 (.cells #[.int .i64 0, .int .i64 0, .int .i64 0] 3)) HZ1.out)
        have HD2 := Lib.hid (D4F.below (box_below w1 (.cells #[.int .i64 0, .int .i64 0, .int .i64 0] 3)) HD1.out)
        have HN3 : Hid (Num3 (w1.alloc (.cells #[.int .i64 0, .int .i64 0, .int .i64 0] 3)) w1.heap.size L 0) := Lib.hid (num3_new w1 L 3)
        have hlow : w.heap.size + 1 < w1.heap.size := HD1.out.1.1
        go_wp2_with fail
        go_loopw [8] (fun i wr => ∃ k : Nat, k ≤ n ∧ i = .int .i64 k ∧ Hid (Num3 wr w1.heap.size L k) ∧ Below w1.heap.size w1 wr) (fun i _ => n - (intOf i).toNat)
        case atStart => exact ⟨0, Nat.zero_le _, rfl, HN3, box_below w1 _⟩
        case round =>
          obtain ⟨k, hk, rfl, HK, hb⟩ := hrel
          by_cases hlt : k < n
          · have hkx : k < L.length := by rw [← HN.out]; exact hlt
            have hx? := List.getElem?_eq_getElem hkx
            obtain ⟨g, o, rfl, hc0⟩ := RD.out k (ba L[k]) (by rw [List.getElem?_map, hx?]; rfl)
            have hc : wr.cell? ⟨g, o + k, none⟩ = some (.string (ba L[k])) := (hb.cell (p := ⟨g, o + k, none⟩) (HA.out ⟨g, o, none⟩ rfl)).trans hc0
            have HP : Hid (nth L k = pval (ba L[k]).data.toList) := Lib.hid (by unfold nth; rw [hx?, toList_ba])
            have hsz : (ba L[k]).size ≤ 1048576 := by rw [ba_size]; exact HSz.out _ (List.getElem_mem hkx)
            have HLz : Hid ((ba L[k]).size = (ba L[k]).data.toList.length) := Lib.hid (len_size _).symm
            clear hx? hc0
            generalize ba L[k] = x at *
            have hk3 : k < 3 := by omega
            obtain ⟨hnb, hkc, hkf⟩ := num3_at HK.out hk3
            by_cases h4 : x.size ≤ 4
            · go_wp2_with fail
              go_loop [9, 10] (fun m q => ∃ j : Nat, j ≤ x.size ∧ q = .int .i64 j ∧ m = .int .i64 (ival (x.data.toList.take j)) ∧ -100000 ≤ ival (x.data.toList.take j) ∧ ival (x.data.toList.take j) ≤ 1000000) (fun _ q => x.size - (intOf q).toNat)
              case atStart => exact ⟨0, Nat.zero_le _, rfl, rfl, by simp [ival], by simp [ival]⟩
              case round =>
                obtain ⟨j, hj, rfl, rfl, hv0, hv1⟩ := hrel
                by_cases hjx : j < x.size
                · have HS : Hid (ival (x.data.toList.take (j + 1)) = 10 * ival (x.data.toList.take j) + x[j].toNat - 48) := Lib.hid (by rw [take_snoc x j hjx, ival_snoc])
                  have hbn := ival_bd (x.data.toList.take (j + 1)) (by rw [List.length_take]; omega)
                  have HBn := Lib.hid hbn
                  clear hbn
                  have hcl := x[j].toNat_lt
                  generalize ival (x.data.toList.take j) = vj at *
                  go_wp2_with fail
                  go_round
                  case rel => exact ⟨j + 1, by omega, by go_num, by rw [HS.out], HBn.out.1, HBn.out.2⟩
                  case measure => simp [intOf]; omega
                · have HE : Hid (ival (x.data.toList.take j) = nth L k) := Lib.hid (by
                    rw [HP.out, List.take_of_length_le (by rw [← HLz.out]; omega)]
                    unfold pval
                    rw [if_pos (by rw [← HLz.out]; exact h4)])
                  generalize ival (x.data.toList.take j) = vj at *
                  go_wp2_with fail
                  go_roundw
                  case rel => exact ⟨k + 1, by omega, by go_num, Lib.hid (by rw [HE.out]; exact num3_set HK.out hk3), hb.setCell (p := ⟨w1.heap.size, k, none⟩) (Nat.le_refl _) _⟩
                  case measure => simp [intOf]; omega
            · have HE : Hid (0 = nth L k) := Lib.hid (by
                rw [HP.out]
                unfold pval
                rw [if_neg (by rw [← HLz.out]; exact h4)])
              go_wp2_with fail
              go_loop [9, 10] (fun m q => q = .int .i64 0 ∧ m = .int .i64 0) (fun _ _ => 0)
              case atStart => exact ⟨rfl, rfl⟩
              case round =>
                obtain ⟨rfl, rfl⟩ := hrel
                go_wp2_with fail
                go_roundw
                case rel => exact ⟨k + 1, by omega, by go_num, Lib.hid (by have := num3_set HK.out hk3; rw [← HE.out] at this; exact this), hb.setCell (p := ⟨w1.heap.size, k, none⟩) (Nat.le_refl _) _⟩
                case measure => simp [intOf]; omega
          · obtain ⟨hnb, e0, e1, e2⟩ := num3_all HK.out (by rw [← HN.out]; omega)
            rw [HY.out] at e0
            rw [HM.out] at e1
            rw [HDy.out] at e2
            have kr := k1.trans (hb.mono k1.size)
            have HZr := Lib.hid (D4F.below hb HZ1.out)
            obtain ⟨⟨dl, d0, d1, d2, d3⟩, df0, df1, df2, df3⟩ := D4F.below hb HD1.out
            have HDr := Lib.hid (D4F.below hb HD1.out)
            have HD3 := Lib.hid (D4F.set3 HDr.out Y M D)
            have hne : ¬ w.heap.size + 1 = w1.heap.size := by omega
            have hne' : ¬ w1.heap.size = w.heap.size + 1 := by omega
            have kd := set3 (v0 := .int .i64 Y) (v1 := .int .i64 M) (v2 := .int .i64 D) kr (show w.heap.size ≤ w.heap.size + 1 by omega)
            have HZ3 := Lib.hid (D4F.far3 (b := w.heap.size + 1) (by omega) HZr.out (v0 := .int .i64 Y) (v1 := .int .i64 M) (v2 := .int .i64 D))
            generalize w1.heap.size = nb at *
            generalize hdb : w.heap.size + 1 = db at *
            clear hb
            go_upto_region 24 with fail
            generalize hW3 : (((wr.setCell ⟨db, 0, none⟩ (.int .i64 Y)).setCell ⟨db, 1, none⟩ (.int .i64 M)).setCell ⟨db, 2, none⟩ (.int .i64 D)) = w3 at *
            clear hW3 d0 d1 d2 d3 df0 df1 df2 df3 e0 e1 e2 dl hnb
            obtain ⟨dl, d0, d1, d2, d3⟩ := HD3.out
            by_cases hy : Y = 0
            · have HPr := Lib.hid (HR0.out hy)
              subst hy
              obtain ⟨⟨zl, z0, z1, z2, z3⟩, f0, f1, f2, f3⟩ := HZ3.out
              go_wp2_with fail
              exact bodyPost_ret (v := .tuple #[dtV 0 0 0 false, .bool false]) (by simp [results, Tryd.results57, go_sem, *]) rfl ⟨_, HPr.out, rfl, set4 kd (Nat.le_refl _)⟩
            · have hyn : (Y == 0) = false := by simpa using hy
              cases hr : okB Y M D true with
              | false =>
                have HR := Lib.hid hr
                have HPr := Lib.hid (HRd.out.no (fun h => by rw [hr] at h; cases h))
                clear hr hy
                go_wp2_with fail
                refine (l3Good Y M D true false _ HR.out).mono ?_
                rintro e w4 ⟨rfl, b4⟩
                have k4 := kd.trans (b4.mono kd.size)
                obtain ⟨⟨zl, z0, z1, z2, z3⟩, f0, f1, f2, f3⟩ := D4F.below b4 HZ3.out
                clear b4 kd HZ3
                go_wp2_with fail
                exact bodyPost_ret (v := .tuple #[dtV 0 0 0 false, .bool false]) (by simp [results, Tryd.results57, go_sem, *]) rfl ⟨_, HPr.out, rfl, set4 k4 (Nat.le_refl _)⟩
              | true =>
                have HR := Lib.hid hr
                have hbd := ok_bd hr
                by_cases hx : ba (text Y M D true) = s
                · have HPr : Hid (AnsD s (.tuple #[dtV Y M D true, .bool true])) := Lib.hid (.inl ⟨_, _, _, _, hr, hx.symm, rfl⟩)
                  obtain ⟨yn, rfl⟩ := Int.eq_ofNat_of_zero_le hbd.1
                  obtain ⟨mn, rfl⟩ := Int.eq_ofNat_of_zero_le hbd.2.2.1
                  obtain ⟨dn, rfl⟩ := Int.eq_ofNat_of_zero_le hbd.2.2.2.2.1
                  have HTx := Lib.hid (fun w => sText yn mn dn true w HR.out)
                  rw [hx] at HTx
                  clear hr hx hbd hy
                  go_wp2_with fail
                  refine (l3Good _ _ _ true true _ HR.out).mono ?_
                  rintro e w4 ⟨rfl, b4⟩
                  have k4 := kd.trans (b4.mono kd.size)
                  have HZ4 := Lib.hid (D4F.below b4 HZ3.out)
                  have HD4 := Lib.hid (HD3.out.below b4)
                  clear b4 kd HZ3 HD3 dl d0 d1 d2 d3
                  obtain ⟨dl, d0, d1, d2, d3⟩ := HD4.out
                  go_wp2_with fail
                  refine (HTx.out _).mono ?_
                  rintro e w5 ⟨rfl, b5⟩
                  have k5 := k4.trans (b5.mono k4.size)
                  obtain ⟨⟨zl, z0, z1, z2, z3⟩, f0, f1, f2, f3⟩ := D4F.below b5 HZ4.out
                  have HD5 := Lib.hid (HD4.out.below b5)
                  clear b5 k4 HZ4 HD4 dl d0 d1 d2 d3
                  obtain ⟨dl, d0, d1, d2, d3⟩ := HD5.out
                  go_wp2_with fail
                  exact bodyPost_ret (v := .tuple #[dtV yn mn dn true, .bool true]) (by simp [results, Tryd.results57, go_sem, *]) rfl ⟨_, HPr.out, rfl, set4 k5 (Nat.le_refl _)⟩
                · have HPr := Lib.hid (HRd.out.no (fun _ => hx))
                  have hnx := ne_forms hx
                  obtain ⟨yn, rfl⟩ := Int.eq_ofNat_of_zero_le hbd.1
                  obtain ⟨mn, rfl⟩ := Int.eq_ofNat_of_zero_le hbd.2.2.1
                  obtain ⟨dn, rfl⟩ := Int.eq_ofNat_of_zero_le hbd.2.2.2.2.1
                  have HTx := Lib.hid (fun w => sText yn mn dn true w HR.out)
                  generalize ba (text (yn : Int) (mn : Int) (dn : Int) true) = T at *
                  clear hr hx hbd hy
                  go_wp2_with fail
                  refine (l3Good _ _ _ true true _ HR.out).mono ?_
                  rintro e w4 ⟨rfl, b4⟩
                  have k4 := kd.trans (b4.mono kd.size)
                  have HZ4 := Lib.hid (D4F.below b4 HZ3.out)
                  have HD4 := Lib.hid (HD3.out.below b4)
                  clear b4 kd HZ3 HD3 dl d0 d1 d2 d3
                  obtain ⟨dl, d0, d1, d2, d3⟩ := HD4.out
                  go_wp2_with fail
                  refine (HTx.out _).mono ?_
                  rintro e w5 ⟨rfl, b5⟩
                  have k5 := k4.trans (b5.mono k4.size)
                  obtain ⟨⟨zl, z0, z1, z2, z3⟩, f0, f1, f2, f3⟩ := D4F.below b5 HZ4.out
                  clear b5 k4 HZ4 HD4 dl d0 d1 d2 d3
                  go_wp2_with fail
                  exact bodyPost_ret (v := .tuple #[dtV 0 0 0 false, .bool false]) (by simp [results, Tryd.results57, go_sem, *]) rfl ⟨_, HPr.out, rfl, set4 k5 (Nat.le_refl _)⟩
      · have HPr : Hid (AnsD s (.tuple #[dtV 0 0 0 false, .bool false])) := Lib.hid (.inr ⟨fun y m d c hk hs => h3 (by rw [HN.out]; exact HNr.out y m d c hk hs), rfl⟩)
        obtain ⟨⟨zl, z0, z1, z2, z3⟩, f0, f1, f2, f3⟩ := HZ1.out
        go_wp2_with fail
        exact bodyPost_ret (v := .tuple #[dtV 0 0 0 false, .bool false]) (by simp [results, Tryd.results57, go_sem, *]) rfl ⟨_, HPr.out, rfl, set4 k1 (Nat.le_refl _)⟩
    | false =>
      obtain ⟨hB, hZ, hD⟩ := twoZ w false 23
      have HB := Lib.hid hB
      have HZ := Lib.hid hZ
      have HD := Lib.hid hD
      clear hB hZ hD
      have HRd : Hid (RdD s (rdY 0 s.data.toList) (rdY 1 s.data.toList) (rdY 2 s.data.toList) false) := Lib.hid (by have := HRd0.out; rw [hcc] at this; exact this)
      have HY : Hid (nth (split 45 (tl s.data.toList)) 0 = rdY 0 s.data.toList) := Lib.hid rfl
      have HM : Hid (nth (split 45 (tl s.data.toList)) 1 = rdY 1 s.data.toList) := Lib.hid rfl
      have HDy : Hid (nth (split 45 (tl s.data.toList)) 2 = rdY 2 s.data.toList) := Lib.hid rfl
      have HSp := HSp0
      have HSz := HSz0
      have hnr := HLen.out
      generalize rdY 0 s.data.toList = Y at *
      generalize rdY 1 s.data.toList = M at *
      generalize rdY 2 s.data.toList = D at *
      have HR0 : Hid (Y = 0 → AnsD s (.tuple #[dtV 0 0 0 false, .bool false])) := Lib.hid (fun h => HRd.out.no (fun _ => by rw [h]; exact HU.out _ _ _))
      generalize split 45 (tl s.data.toList) = L at *
      have hT := cc_no hcc
      rw [hT] at HSp HSp0
      clear hT HSp0 HSz0 HLen HU HRd0 hu
      rcases cc_head hcc with ⟨hne1, hne2⟩ | ⟨hp, h99, hne1, hne2⟩
      · clear hcc
        go_enter Tryd.func57, Tryd.ntmps57
        go_wp2_with fail
        generalize (w.alloc (.cells #[.int .i64 0, .int .i64 0, .int .i64 0, .bool false] 23)).alloc (.cells #[.int .i64 0, .int .i64 0, .int .i64 0, .bool false] 23) = w0 at *
        refine (HSp.out _).mono ?_
        rintro e w1 ⟨v, rfl, o1, b1⟩
        have k1 := HB.out.trans (b1.mono HB.out.size)
        have HZ1 := Lib.hid (D4F.below b1 HZ.out)
        have HD1 := Lib.hid (D4F.below b1 HD.out)
        clear b1 HZ HD
        obtain ⟨A, cp, rfl, _, rd, hA⟩ := own_rds (xs := L.map ba) (show w1.ownsRow _ 9 1 v L.length ((L.map ba).map Value.string) by rw [List.map_map]; exact o1)
        have RD := Lib.hid rd
        have HA := Lib.hid hA
        clear rd o1 hA
        obtain ⟨n, HN⟩ : ∃ n, Hid (n = L.length) := ⟨_, Lib.hid rfl⟩
        rw [← HN.out]
        have HNr := Lib.hid hnr
        clear hnr
        by_cases h3 : n ≤ 3
        · have HZ2 := Lib.hid (D4F.below (box_below w1 (.cells #[.int .i64 0, .int .i64 0, .int .i64 0] 3)) HZ1.out)
          have HD2 := Lib.hid (D4F.below (box_below w1 (.cells #[.int .i64 0, .int .i64 0, .int .i64 0] 3)) HD1.out)
          have HN3 : Hid (Num3 (w1.alloc (.cells #[.int .i64 0, .int .i64 0, .int .i64 0] 3)) w1.heap.size L 0) := Lib.hid (num3_new w1 L 3)
          have hlow : w.heap.size + 1 < w1.heap.size := HD1.out.1.1
          go_wp2_with fail
          go_loopw [8] (fun i wr => ∃ k : Nat, k ≤ n ∧ i = .int .i64 k ∧ Hid (Num3 wr w1.heap.size L k) ∧ Below w1.heap.size w1 wr) (fun i _ => n - (intOf i).toNat)
          case atStart => exact ⟨0, Nat.zero_le _, rfl, HN3, box_below w1 _⟩
          case round =>
            obtain ⟨k, hk, rfl, HK, hb⟩ := hrel
            by_cases hlt : k < n
            · have hkx : k < L.length := by rw [← HN.out]; exact hlt
              have hx? := List.getElem?_eq_getElem hkx
              obtain ⟨g, o, rfl, hc0⟩ := RD.out k (ba L[k]) (by rw [List.getElem?_map, hx?]; rfl)
              have hc : wr.cell? ⟨g, o + k, none⟩ = some (.string (ba L[k])) := (hb.cell (p := ⟨g, o + k, none⟩) (HA.out ⟨g, o, none⟩ rfl)).trans hc0
              have HP : Hid (nth L k = pval (ba L[k]).data.toList) := Lib.hid (by unfold nth; rw [hx?, toList_ba])
              have hsz : (ba L[k]).size ≤ 1048576 := by rw [ba_size]; exact HSz.out _ (List.getElem_mem hkx)
              have HLz : Hid ((ba L[k]).size = (ba L[k]).data.toList.length) := Lib.hid (len_size _).symm
              clear hx? hc0
              generalize ba L[k] = x at *
              have hk3 : k < 3 := by omega
              obtain ⟨hnb, hkc, hkf⟩ := num3_at HK.out hk3
              by_cases h4 : x.size ≤ 4
              · go_wp2_with fail
                go_loop [9, 10] (fun m q => ∃ j : Nat, j ≤ x.size ∧ q = .int .i64 j ∧ m = .int .i64 (ival (x.data.toList.take j)) ∧ -100000 ≤ ival (x.data.toList.take j) ∧ ival (x.data.toList.take j) ≤ 1000000) (fun _ q => x.size - (intOf q).toNat)
                case atStart => exact ⟨0, Nat.zero_le _, rfl, rfl, by simp [ival], by simp [ival]⟩
                case round =>
                  obtain ⟨j, hj, rfl, rfl, hv0, hv1⟩ := hrel
                  by_cases hjx : j < x.size
                  · have HS : Hid (ival (x.data.toList.take (j + 1)) = 10 * ival (x.data.toList.take j) + x[j].toNat - 48) := Lib.hid (by rw [take_snoc x j hjx, ival_snoc])
                    have hbn := ival_bd (x.data.toList.take (j + 1)) (by rw [List.length_take]; omega)
                    have HBn := Lib.hid hbn
                    clear hbn
                    have hcl := x[j].toNat_lt
                    generalize ival (x.data.toList.take j) = vj at *
                    go_wp2_with fail
                    go_round
                    case rel => exact ⟨j + 1, by omega, by go_num, by rw [HS.out], HBn.out.1, HBn.out.2⟩
                    case measure => simp [intOf]; omega
                  · have HE : Hid (ival (x.data.toList.take j) = nth L k) := Lib.hid (by
                      rw [HP.out, List.take_of_length_le (by rw [← HLz.out]; omega)]
                      unfold pval
                      rw [if_pos (by rw [← HLz.out]; exact h4)])
                    generalize ival (x.data.toList.take j) = vj at *
                    go_wp2_with fail
                    go_roundw
                    case rel => exact ⟨k + 1, by omega, by go_num, Lib.hid (by rw [HE.out]; exact num3_set HK.out hk3), hb.setCell (p := ⟨w1.heap.size, k, none⟩) (Nat.le_refl _) _⟩
                    case measure => simp [intOf]; omega
              · have HE : Hid (0 = nth L k) := Lib.hid (by
                  rw [HP.out]
                  unfold pval
                  rw [if_neg (by rw [← HLz.out]; exact h4)])
                go_wp2_with fail
                go_loop [9, 10] (fun m q => q = .int .i64 0 ∧ m = .int .i64 0) (fun _ _ => 0)
                case atStart => exact ⟨rfl, rfl⟩
                case round =>
                  obtain ⟨rfl, rfl⟩ := hrel
                  go_wp2_with fail
                  go_roundw
                  case rel => exact ⟨k + 1, by omega, by go_num, Lib.hid (by have := num3_set HK.out hk3; rw [← HE.out] at this; exact this), hb.setCell (p := ⟨w1.heap.size, k, none⟩) (Nat.le_refl _) _⟩
                  case measure => simp [intOf]; omega
            · obtain ⟨hnb, e0, e1, e2⟩ := num3_all HK.out (by rw [← HN.out]; omega)
              rw [HY.out] at e0
              rw [HM.out] at e1
              rw [HDy.out] at e2
              have kr := k1.trans (hb.mono k1.size)
              have HZr := Lib.hid (D4F.below hb HZ1.out)
              obtain ⟨⟨dl, d0, d1, d2, d3⟩, df0, df1, df2, df3⟩ := D4F.below hb HD1.out
              have HDr := Lib.hid (D4F.below hb HD1.out)
              have HD3 := Lib.hid (D4F.set3 HDr.out Y M D)
              have hne : ¬ w.heap.size + 1 = w1.heap.size := by omega
              have hne' : ¬ w1.heap.size = w.heap.size + 1 := by omega
              have kd := set3 (v0 := .int .i64 Y) (v1 := .int .i64 M) (v2 := .int .i64 D) kr (show w.heap.size ≤ w.heap.size + 1 by omega)
              have HZ3 := Lib.hid (D4F.far3 (b := w.heap.size + 1) (by omega) HZr.out (v0 := .int .i64 Y) (v1 := .int .i64 M) (v2 := .int .i64 D))
              generalize w1.heap.size = nb at *
              generalize hdb : w.heap.size + 1 = db at *
              clear hb
              go_upto_region 24 with fail
              generalize hW3 : (((wr.setCell ⟨db, 0, none⟩ (.int .i64 Y)).setCell ⟨db, 1, none⟩ (.int .i64 M)).setCell ⟨db, 2, none⟩ (.int .i64 D)) = w3 at *
              clear hW3 d0 d1 d2 d3 df0 df1 df2 df3 e0 e1 e2 dl hnb
              obtain ⟨dl, d0, d1, d2, d3⟩ := HD3.out
              by_cases hy : Y = 0
              · have HPr := Lib.hid (HR0.out hy)
                subst hy
                obtain ⟨⟨zl, z0, z1, z2, z3⟩, f0, f1, f2, f3⟩ := HZ3.out
                go_wp2_with fail
                exact bodyPost_ret (v := .tuple #[dtV 0 0 0 false, .bool false]) (by simp [results, Tryd.results57, go_sem, *]) rfl ⟨_, HPr.out, rfl, set4 kd (Nat.le_refl _)⟩
              · have hyn : (Y == 0) = false := by simpa using hy
                cases hr : okB Y M D false with
                | false =>
                  have HR := Lib.hid hr
                  have HPr := Lib.hid (HRd.out.no (fun h => by rw [hr] at h; cases h))
                  clear hr hy
                  go_wp2_with fail
                  refine (l3Good Y M D false false _ HR.out).mono ?_
                  rintro e w4 ⟨rfl, b4⟩
                  have k4 := kd.trans (b4.mono kd.size)
                  obtain ⟨⟨zl, z0, z1, z2, z3⟩, f0, f1, f2, f3⟩ := D4F.below b4 HZ3.out
                  clear b4 kd HZ3
                  go_wp2_with fail
                  exact bodyPost_ret (v := .tuple #[dtV 0 0 0 false, .bool false]) (by simp [results, Tryd.results57, go_sem, *]) rfl ⟨_, HPr.out, rfl, set4 k4 (Nat.le_refl _)⟩
                | true =>
                  have HR := Lib.hid hr
                  have hbd := ok_bd hr
                  by_cases hx : ba (text Y M D false) = s
                  · have HPr : Hid (AnsD s (.tuple #[dtV Y M D false, .bool true])) := Lib.hid (.inl ⟨_, _, _, _, hr, hx.symm, rfl⟩)
                    obtain ⟨yn, rfl⟩ := Int.eq_ofNat_of_zero_le hbd.1
                    obtain ⟨mn, rfl⟩ := Int.eq_ofNat_of_zero_le hbd.2.2.1
                    obtain ⟨dn, rfl⟩ := Int.eq_ofNat_of_zero_le hbd.2.2.2.2.1
                    have HTx := Lib.hid (fun w => sText yn mn dn false w HR.out)
                    rw [hx] at HTx
                    clear hr hx hbd hy
                    go_wp2_with fail
                    refine (l3Good _ _ _ false true _ HR.out).mono ?_
                    rintro e w4 ⟨rfl, b4⟩
                    have k4 := kd.trans (b4.mono kd.size)
                    have HZ4 := Lib.hid (D4F.below b4 HZ3.out)
                    have HD4 := Lib.hid (HD3.out.below b4)
                    clear b4 kd HZ3 HD3 dl d0 d1 d2 d3
                    obtain ⟨dl, d0, d1, d2, d3⟩ := HD4.out
                    go_wp2_with fail
                    refine (HTx.out _).mono ?_
                    rintro e w5 ⟨rfl, b5⟩
                    have k5 := k4.trans (b5.mono k4.size)
                    obtain ⟨⟨zl, z0, z1, z2, z3⟩, f0, f1, f2, f3⟩ := D4F.below b5 HZ4.out
                    have HD5 := Lib.hid (HD4.out.below b5)
                    clear b5 k4 HZ4 HD4 dl d0 d1 d2 d3
                    obtain ⟨dl, d0, d1, d2, d3⟩ := HD5.out
                    go_wp2_with fail
                    exact bodyPost_ret (v := .tuple #[dtV yn mn dn false, .bool true]) (by simp [results, Tryd.results57, go_sem, *]) rfl ⟨_, HPr.out, rfl, set4 k5 (Nat.le_refl _)⟩
                  · have HPr := Lib.hid (HRd.out.no (fun _ => hx))
                    have hnx := ne_forms hx
                    obtain ⟨yn, rfl⟩ := Int.eq_ofNat_of_zero_le hbd.1
                    obtain ⟨mn, rfl⟩ := Int.eq_ofNat_of_zero_le hbd.2.2.1
                    obtain ⟨dn, rfl⟩ := Int.eq_ofNat_of_zero_le hbd.2.2.2.2.1
                    have HTx := Lib.hid (fun w => sText yn mn dn false w HR.out)
                    generalize ba (text (yn : Int) (mn : Int) (dn : Int) false) = T at *
                    clear hr hx hbd hy
                    go_wp2_with fail
                    refine (l3Good _ _ _ false true _ HR.out).mono ?_
                    rintro e w4 ⟨rfl, b4⟩
                    have k4 := kd.trans (b4.mono kd.size)
                    have HZ4 := Lib.hid (D4F.below b4 HZ3.out)
                    have HD4 := Lib.hid (HD3.out.below b4)
                    clear b4 kd HZ3 HD3 dl d0 d1 d2 d3
                    obtain ⟨dl, d0, d1, d2, d3⟩ := HD4.out
                    go_wp2_with fail
                    refine (HTx.out _).mono ?_
                    rintro e w5 ⟨rfl, b5⟩
                    have k5 := k4.trans (b5.mono k4.size)
                    obtain ⟨⟨zl, z0, z1, z2, z3⟩, f0, f1, f2, f3⟩ := D4F.below b5 HZ4.out
                    clear b5 k4 HZ4 HD4 dl d0 d1 d2 d3
                    go_wp2_with fail
                    exact bodyPost_ret (v := .tuple #[dtV 0 0 0 false, .bool false]) (by simp [results, Tryd.results57, go_sem, *]) rfl ⟨_, HPr.out, rfl, set4 k5 (Nat.le_refl _)⟩
        · have HPr : Hid (AnsD s (.tuple #[dtV 0 0 0 false, .bool false])) := Lib.hid (.inr ⟨fun y m d c hk hs => h3 (by rw [HN.out]; exact HNr.out y m d c hk hs), rfl⟩)
          obtain ⟨⟨zl, z0, z1, z2, z3⟩, f0, f1, f2, f3⟩ := HZ1.out
          go_wp2_with fail
          exact bodyPost_ret (v := .tuple #[dtV 0 0 0 false, .bool false]) (by simp [results, Tryd.results57, go_sem, *]) rfl ⟨_, HPr.out, rfl, set4 k1 (Nat.le_refl _)⟩
      · clear hcc
        go_enter Tryd.func57, Tryd.ntmps57
        go_wp2_with fail
        generalize (w.alloc (.cells #[.int .i64 0, .int .i64 0, .int .i64 0, .bool false] 23)).alloc (.cells #[.int .i64 0, .int .i64 0, .int .i64 0, .bool false] 23) = w0 at *
        refine (HSp.out _).mono ?_
        rintro e w1 ⟨v, rfl, o1, b1⟩
        have k1 := HB.out.trans (b1.mono HB.out.size)
        have HZ1 := Lib.hid (D4F.below b1 HZ.out)
        have HD1 := Lib.hid (D4F.below b1 HD.out)
        clear b1 HZ HD
        obtain ⟨A, cp, rfl, _, rd, hA⟩ := own_rds (xs := L.map ba) (show w1.ownsRow _ 9 1 v L.length ((L.map ba).map Value.string) by rw [List.map_map]; exact o1)
        have RD := Lib.hid rd
        have HA := Lib.hid hA
        clear rd o1 hA
        obtain ⟨n, HN⟩ : ∃ n, Hid (n = L.length) := ⟨_, Lib.hid rfl⟩
        rw [← HN.out]
        have HNr := Lib.hid hnr
        clear hnr
        by_cases h3 : n ≤ 3
        · have HZ2 := Lib.hid (D4F.below (box_below w1 (.cells #[.int .i64 0, .int .i64 0, .int .i64 0] 3)) HZ1.out)
          have HD2 := Lib.hid (D4F.below (box_below w1 (.cells #[.int .i64 0, .int .i64 0, .int .i64 0] 3)) HD1.out)
          have HN3 : Hid (Num3 (w1.alloc (.cells #[.int .i64 0, .int .i64 0, .int .i64 0] 3)) w1.heap.size L 0) := Lib.hid (num3_new w1 L 3)
          have hlow : w.heap.size + 1 < w1.heap.size := HD1.out.1.1
          go_wp2_with fail
          go_loopw [8] (fun i wr => ∃ k : Nat, k ≤ n ∧ i = .int .i64 k ∧ Hid (Num3 wr w1.heap.size L k) ∧ Below w1.heap.size w1 wr) (fun i _ => n - (intOf i).toNat)
          case atStart => exact ⟨0, Nat.zero_le _, rfl, HN3, box_below w1 _⟩
          case round =>
            obtain ⟨k, hk, rfl, HK, hb⟩ := hrel
            by_cases hlt : k < n
            · have hkx : k < L.length := by rw [← HN.out]; exact hlt
              have hx? := List.getElem?_eq_getElem hkx
              obtain ⟨g, o, rfl, hc0⟩ := RD.out k (ba L[k]) (by rw [List.getElem?_map, hx?]; rfl)
              have hc : wr.cell? ⟨g, o + k, none⟩ = some (.string (ba L[k])) := (hb.cell (p := ⟨g, o + k, none⟩) (HA.out ⟨g, o, none⟩ rfl)).trans hc0
              have HP : Hid (nth L k = pval (ba L[k]).data.toList) := Lib.hid (by unfold nth; rw [hx?, toList_ba])
              have hsz : (ba L[k]).size ≤ 1048576 := by rw [ba_size]; exact HSz.out _ (List.getElem_mem hkx)
              have HLz : Hid ((ba L[k]).size = (ba L[k]).data.toList.length) := Lib.hid (len_size _).symm
              clear hx? hc0
              generalize ba L[k] = x at *
              have hk3 : k < 3 := by omega
              obtain ⟨hnb, hkc, hkf⟩ := num3_at HK.out hk3
              by_cases h4 : x.size ≤ 4
              · go_wp2_with fail
                go_loop [9, 10] (fun m q => ∃ j : Nat, j ≤ x.size ∧ q = .int .i64 j ∧ m = .int .i64 (ival (x.data.toList.take j)) ∧ -100000 ≤ ival (x.data.toList.take j) ∧ ival (x.data.toList.take j) ≤ 1000000) (fun _ q => x.size - (intOf q).toNat)
                case atStart => exact ⟨0, Nat.zero_le _, rfl, rfl, by simp [ival], by simp [ival]⟩
                case round =>
                  obtain ⟨j, hj, rfl, rfl, hv0, hv1⟩ := hrel
                  by_cases hjx : j < x.size
                  · have HS : Hid (ival (x.data.toList.take (j + 1)) = 10 * ival (x.data.toList.take j) + x[j].toNat - 48) := Lib.hid (by rw [take_snoc x j hjx, ival_snoc])
                    have hbn := ival_bd (x.data.toList.take (j + 1)) (by rw [List.length_take]; omega)
                    have HBn := Lib.hid hbn
                    clear hbn
                    have hcl := x[j].toNat_lt
                    generalize ival (x.data.toList.take j) = vj at *
                    go_wp2_with fail
                    go_round
                    case rel => exact ⟨j + 1, by omega, by go_num, by rw [HS.out], HBn.out.1, HBn.out.2⟩
                    case measure => simp [intOf]; omega
                  · have HE : Hid (ival (x.data.toList.take j) = nth L k) := Lib.hid (by
                      rw [HP.out, List.take_of_length_le (by rw [← HLz.out]; omega)]
                      unfold pval
                      rw [if_pos (by rw [← HLz.out]; exact h4)])
                    generalize ival (x.data.toList.take j) = vj at *
                    go_wp2_with fail
                    go_roundw
                    case rel => exact ⟨k + 1, by omega, by go_num, Lib.hid (by rw [HE.out]; exact num3_set HK.out hk3), hb.setCell (p := ⟨w1.heap.size, k, none⟩) (Nat.le_refl _) _⟩
                    case measure => simp [intOf]; omega
              · have HE : Hid (0 = nth L k) := Lib.hid (by
                  rw [HP.out]
                  unfold pval
                  rw [if_neg (by rw [← HLz.out]; exact h4)])
                go_wp2_with fail
                go_loop [9, 10] (fun m q => q = .int .i64 0 ∧ m = .int .i64 0) (fun _ _ => 0)
                case atStart => exact ⟨rfl, rfl⟩
                case round =>
                  obtain ⟨rfl, rfl⟩ := hrel
                  go_wp2_with fail
                  go_roundw
                  case rel => exact ⟨k + 1, by omega, by go_num, Lib.hid (by have := num3_set HK.out hk3; rw [← HE.out] at this; exact this), hb.setCell (p := ⟨w1.heap.size, k, none⟩) (Nat.le_refl _) _⟩
                  case measure => simp [intOf]; omega
            · obtain ⟨hnb, e0, e1, e2⟩ := num3_all HK.out (by rw [← HN.out]; omega)
              rw [HY.out] at e0
              rw [HM.out] at e1
              rw [HDy.out] at e2
              have kr := k1.trans (hb.mono k1.size)
              have HZr := Lib.hid (D4F.below hb HZ1.out)
              obtain ⟨⟨dl, d0, d1, d2, d3⟩, df0, df1, df2, df3⟩ := D4F.below hb HD1.out
              have HDr := Lib.hid (D4F.below hb HD1.out)
              have HD3 := Lib.hid (D4F.set3 HDr.out Y M D)
              have hne : ¬ w.heap.size + 1 = w1.heap.size := by omega
              have hne' : ¬ w1.heap.size = w.heap.size + 1 := by omega
              have kd := set3 (v0 := .int .i64 Y) (v1 := .int .i64 M) (v2 := .int .i64 D) kr (show w.heap.size ≤ w.heap.size + 1 by omega)
              have HZ3 := Lib.hid (D4F.far3 (b := w.heap.size + 1) (by omega) HZr.out (v0 := .int .i64 Y) (v1 := .int .i64 M) (v2 := .int .i64 D))
              generalize w1.heap.size = nb at *
              generalize hdb : w.heap.size + 1 = db at *
              clear hb
              go_upto_region 24 with fail
              generalize hW3 : (((wr.setCell ⟨db, 0, none⟩ (.int .i64 Y)).setCell ⟨db, 1, none⟩ (.int .i64 M)).setCell ⟨db, 2, none⟩ (.int .i64 D)) = w3 at *
              clear hW3 d0 d1 d2 d3 df0 df1 df2 df3 e0 e1 e2 dl hnb
              obtain ⟨dl, d0, d1, d2, d3⟩ := HD3.out
              by_cases hy : Y = 0
              · have HPr := Lib.hid (HR0.out hy)
                subst hy
                obtain ⟨⟨zl, z0, z1, z2, z3⟩, f0, f1, f2, f3⟩ := HZ3.out
                go_wp2_with fail
                exact bodyPost_ret (v := .tuple #[dtV 0 0 0 false, .bool false]) (by simp [results, Tryd.results57, go_sem, *]) rfl ⟨_, HPr.out, rfl, set4 kd (Nat.le_refl _)⟩
              · have hyn : (Y == 0) = false := by simpa using hy
                cases hr : okB Y M D false with
                | false =>
                  have HR := Lib.hid hr
                  have HPr := Lib.hid (HRd.out.no (fun h => by rw [hr] at h; cases h))
                  clear hr hy
                  go_wp2_with fail
                  refine (l3Good Y M D false false _ HR.out).mono ?_
                  rintro e w4 ⟨rfl, b4⟩
                  have k4 := kd.trans (b4.mono kd.size)
                  obtain ⟨⟨zl, z0, z1, z2, z3⟩, f0, f1, f2, f3⟩ := D4F.below b4 HZ3.out
                  clear b4 kd HZ3
                  go_wp2_with fail
                  exact bodyPost_ret (v := .tuple #[dtV 0 0 0 false, .bool false]) (by simp [results, Tryd.results57, go_sem, *]) rfl ⟨_, HPr.out, rfl, set4 k4 (Nat.le_refl _)⟩
                | true =>
                  have HR := Lib.hid hr
                  have hbd := ok_bd hr
                  by_cases hx : ba (text Y M D false) = s
                  · have HPr : Hid (AnsD s (.tuple #[dtV Y M D false, .bool true])) := Lib.hid (.inl ⟨_, _, _, _, hr, hx.symm, rfl⟩)
                    obtain ⟨yn, rfl⟩ := Int.eq_ofNat_of_zero_le hbd.1
                    obtain ⟨mn, rfl⟩ := Int.eq_ofNat_of_zero_le hbd.2.2.1
                    obtain ⟨dn, rfl⟩ := Int.eq_ofNat_of_zero_le hbd.2.2.2.2.1
                    have HTx := Lib.hid (fun w => sText yn mn dn false w HR.out)
                    rw [hx] at HTx
                    clear hr hx hbd hy
                    go_wp2_with fail
                    refine (l3Good _ _ _ false true _ HR.out).mono ?_
                    rintro e w4 ⟨rfl, b4⟩
                    have k4 := kd.trans (b4.mono kd.size)
                    have HZ4 := Lib.hid (D4F.below b4 HZ3.out)
                    have HD4 := Lib.hid (HD3.out.below b4)
                    clear b4 kd HZ3 HD3 dl d0 d1 d2 d3
                    obtain ⟨dl, d0, d1, d2, d3⟩ := HD4.out
                    go_wp2_with fail
                    refine (HTx.out _).mono ?_
                    rintro e w5 ⟨rfl, b5⟩
                    have k5 := k4.trans (b5.mono k4.size)
                    obtain ⟨⟨zl, z0, z1, z2, z3⟩, f0, f1, f2, f3⟩ := D4F.below b5 HZ4.out
                    have HD5 := Lib.hid (HD4.out.below b5)
                    clear b5 k4 HZ4 HD4 dl d0 d1 d2 d3
                    obtain ⟨dl, d0, d1, d2, d3⟩ := HD5.out
                    go_wp2_with fail
                    exact bodyPost_ret (v := .tuple #[dtV yn mn dn false, .bool true]) (by simp [results, Tryd.results57, go_sem, *]) rfl ⟨_, HPr.out, rfl, set4 k5 (Nat.le_refl _)⟩
                  · have HPr := Lib.hid (HRd.out.no (fun _ => hx))
                    have hnx := ne_forms hx
                    obtain ⟨yn, rfl⟩ := Int.eq_ofNat_of_zero_le hbd.1
                    obtain ⟨mn, rfl⟩ := Int.eq_ofNat_of_zero_le hbd.2.2.1
                    obtain ⟨dn, rfl⟩ := Int.eq_ofNat_of_zero_le hbd.2.2.2.2.1
                    have HTx := Lib.hid (fun w => sText yn mn dn false w HR.out)
                    generalize ba (text (yn : Int) (mn : Int) (dn : Int) false) = T at *
                    clear hr hx hbd hy
                    go_wp2_with fail
                    refine (l3Good _ _ _ false true _ HR.out).mono ?_
                    rintro e w4 ⟨rfl, b4⟩
                    have k4 := kd.trans (b4.mono kd.size)
                    have HZ4 := Lib.hid (D4F.below b4 HZ3.out)
                    have HD4 := Lib.hid (HD3.out.below b4)
                    clear b4 kd HZ3 HD3 dl d0 d1 d2 d3
                    obtain ⟨dl, d0, d1, d2, d3⟩ := HD4.out
                    go_wp2_with fail
                    refine (HTx.out _).mono ?_
                    rintro e w5 ⟨rfl, b5⟩
                    have k5 := k4.trans (b5.mono k4.size)
                    obtain ⟨⟨zl, z0, z1, z2, z3⟩, f0, f1, f2, f3⟩ := D4F.below b5 HZ4.out
                    clear b5 k4 HZ4 HD4 dl d0 d1 d2 d3
                    go_wp2_with fail
                    exact bodyPost_ret (v := .tuple #[dtV 0 0 0 false, .bool false]) (by simp [results, Tryd.results57, go_sem, *]) rfl ⟨_, HPr.out, rfl, set4 k5 (Nat.le_refl _)⟩
        · have HPr : Hid (AnsD s (.tuple #[dtV 0 0 0 false, .bool false])) := Lib.hid (.inr ⟨fun y m d c hk hs => h3 (by rw [HN.out]; exact HNr.out y m d c hk hs), rfl⟩)
          obtain ⟨⟨zl, z0, z1, z2, z3⟩, f0, f1, f2, f3⟩ := HZ1.out
          go_wp2_with fail
          exact bodyPost_ret (v := .tuple #[dtV 0 0 0 false, .bool false]) (by simp [results, Tryd.results57, go_sem, *]) rfl ⟨_, HPr.out, rfl, set4 k1 (Nat.le_refl _)⟩

end Go.Proofs.YtjdnkjobccnmlaaDoor.Pd
