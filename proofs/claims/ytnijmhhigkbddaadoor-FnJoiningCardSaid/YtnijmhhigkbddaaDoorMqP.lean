/-
  Contracts of JoinParts of both.
-/
import Derived.Test.YtnijmhhigkbddaaDoorMqJ
import Derived.Test.YtnijmhhigkbddaaDoorStrs
namespace Go.Proofs.YtnijmhhigkbddaaDoor.Mq
open Go.RowKit Pl NmPl MqPl Strs
set_option linter.unusedSimpArgs false
set_option linter.unusedVariables false

/-- one more part -/
def jpS (d out x : ByteArray) : ByteArray := if x.size = 0 then out else if out.size = 0 then x else jB (jB out d) x
def jpA (d : ByteArray) (xs : List ByteArray) : ByteArray := xs.foldl (jpS d) ⟨#[]⟩
def okB (x : ByteArray) : Bool := okX x.data.toList
theorem okB_size {x : ByteArray} (h : okB x = true) : x.size ≤ 60 := by
  unfold okB okX at h
  simp only [Bool.and_eq_true, decide_eq_true_eq] at h
  rw [len_size] at h
  exact h.1
theorem jpS_size {d out x : ByteArray} (hd : d.size ≤ 60) (hx : x.size ≤ 60) : (jpS d out x).size ≤ out.size + 120 := by
  unfold jpS; split
  · omega
  · split
    · omega
    · have h1 := jB_size (jB out d) x
      have h2 := jB_size out d
      omega
theorem take_at {xs : List ByteArray} {k : Nat} {x : ByteArray} (h : xs[k]? = some x) : xs.take (k + 1) = xs.take k ++ [x] := by rw [List.take_add_one, h]; rfl
theorem jpA_at (d : ByteArray) {xs : List ByteArray} {k : Nat} {x : ByteArray} (h : xs[k]? = some x) : jpA d (xs.take (k + 1)) = jpS d (jpA d (xs.take k)) x := by
  rw [take_at h]; simp [jpA, List.foldl_append]
theorem all_at {xs : List ByteArray} {k : Nat} {x : ByteArray} (h : xs[k]? = some x) : (xs.take (k + 1)).all okB = ((xs.take k).all okB && okB x) := by
  rw [take_at h, List.all_append]; simp
theorem all_no {xs : List ByteArray} {k : Nat} {x : ByteArray} (h : xs[k]? = some x) (h2 : okB x = false) : xs.all okB = false := by
  rw [List.all_eq_false]
  exact ⟨x, List.mem_of_getElem? h, by simp [h2]⟩
theorem jpA_size {d : ByteArray} (hd : d.size ≤ 60) (xs : List ByteArray) (h : xs.all okB = true) : (jpA d xs).size ≤ 120 * xs.length := by
  induction xs using listSnoc with
  | h0 => exact Nat.le_refl _
  | h1 l x ih =>
    rw [List.all_append] at h
    simp only [Bool.and_eq_true, List.all_cons, List.all_nil, Bool.and_true] at h
    have e : jpA d (l ++ [x]) = jpS d (jpA d l) x := by simp [jpA, List.foldl_append]
    rw [e]
    have h1 := jpS_size (out := jpA d l) hd (okB_size h.2)
    have h2 := ih h.1
    simp
    omega
theorem jB_nil (x : ByteArray) : jB ⟨#[]⟩ x = x := by
  rw [jB_nil_l]; exact ext_l (by rw [app_l]; rfl)
theorem jpS_nil (d out : ByteArray) : jpS d out ⟨#[]⟩ = out := rfl
theorem jpS_first {d x : ByteArray} (h : 0 < x.size) : jpS d ⟨#[]⟩ x = x := by
  unfold jpS; rw [if_neg (by omega)]; exact if_pos (by decide)
theorem jpS_next {d out x : ByteArray} (h : 0 < x.size) (h2 : 0 < out.size) : jpS d out x = jB (jB out d) x := by
  unfold jpS; rw [if_neg (by omega), if_neg (by omega)]
/-- what JoinParts answers -/
def jpV (xs : List ByteArray) (d : ByteArray) : Value := if (xs.length ≤ 12 ∧ okB d = true) ∧ xs.all okB = true then .tuple #[.string (jpA d xs), .bool true] else .tuple #[.string ⟨#[]⟩, .bool false]
theorem jpV_form (xs : List ByteArray) (d : ByteArray) : ∃ t r, jpV xs d = .tuple #[.string t, .bool r] := by unfold jpV; split <;> exact ⟨_, _, rfl⟩
theorem RdS.at {w : World} {A : Option Addr} {xs : List ByteArray} {k : Nat} {x : ByteArray} (h : RdS w A xs) (hx : xs[k]? = some x) : ∃ g o, A = some ⟨g, o, none⟩ ∧ w.cell? ⟨g, o + k, none⟩ = some (.string x) := h k x hx
set_option maxHeartbeats 8000000 in
theorem parts_s (A : Option Addr) (c n : Nat) (xs : List ByteArray) (d : ByteArray) (w : World) (hr : RdS w A xs) (hA : 0 < n → ∀ a, A = some a → a.block < w.heap.size) (hn : xs.length = n) (hm : n ≤ 1048576) (hxs : ∀ x ∈ xs, x.size ≤ 1048576) (hd : d.size ≤ 1048576) :
    Calls Tryd.prog 10 #[.slice A n c, .string d] w fun e w' => e = .returned (jpV xs d) ∧ Below w.heap.size w w' := by
  have HR := Lib.hid hr
  have HA := Lib.hid hA
  have HN := Lib.hid hn
  have HXs := Lib.hid hxs
  have HD := Lib.hid (fun r h w => text_s d r w hd h)
  clear hr hA hn hxs
  by_cases h12 : 12 < n
  · have HE : Hid (jpV xs d = .tuple #[.string ⟨#[]⟩, .bool false]) := Lib.hid (by unfold jpV; rw [if_neg (fun h => by have := h.1.1; rw [HN.out] at this; omega)])
    have hg : decide ((12 : Int) < (n : Int)) = true := by simp; omega
    clear h12
    go_enter Tryd.func10, Tryd.ntmps10
    go_wp2_with fail
    go_ret2
    exact ⟨by rw [HE.out]; rfl, Below.refl _ _⟩
  · have hg : decide ((12 : Int) < (n : Int)) = false := by simp; omega
    cases hdx : okX d.data.toList with
    | false =>
      have HE : Hid (jpV xs d = .tuple #[.string ⟨#[]⟩, .bool false]) := Lib.hid (by unfold jpV; rw [if_neg (fun h => by have := h.1.2; unfold okB at this; rw [hdx] at this; cases this)])
      have HD' := Lib.hid (HD.out false hdx)
      clear hdx h12 HD
      go_enter Tryd.func10, Tryd.ntmps10
      go_wp2_with fail
      refine (HD'.out _).mono ?_
      rintro e w' ⟨rfl, rfl⟩
      go_wp2_with fail
      go_ret2
      exact ⟨by rw [HE.out]; rfl, Below.refl _ _⟩
    | true =>
      have hd60 : d.size ≤ 60 := okB_size hdx
      have HEn : Hid (∀ (h : xs.all okB = true), jpV xs d = .tuple #[.string (jpA d xs), .bool true]) := Lib.hid (fun h => by unfold jpV; rw [if_pos ⟨⟨by rw [HN.out]; omega, hdx⟩, h⟩])
      have HEf : Hid (∀ (h : xs.all okB = false), jpV xs d = .tuple #[.string ⟨#[]⟩, .bool false]) := Lib.hid (fun h => by unfold jpV; rw [if_neg (fun e => by rw [h] at e; cases e.2)])
      have HD' := Lib.hid (HD.out true hdx)
      have hn12 : n ≤ 12 := by omega
      clear hdx h12 HD
      go_enter Tryd.func10, Tryd.ntmps10
      go_wp2_with fail
      refine (HD'.out _).mono ?_
      rintro e w' ⟨rfl, hw⟩
      subst hw
      go_wp2_with fail
      go_loopw [6, 7] (fun v i wr => ∃ k : Nat, k ≤ n ∧ i = .int .i64 k ∧ v = .string (jpA d (xs.take k)) ∧ Hid ((xs.take k).all okB = true) ∧ Hid (Below w.heap.size w wr)) (fun _ i _ => n - (intOf i).toNat)
      case atStart => exact ⟨0, Nat.zero_le _, rfl, rfl, Lib.hid rfl, Lib.hid (Below.refl _ _)⟩
      case round =>
        obtain ⟨k, hk, rfl, rfl, HO, HB⟩ := hrel
        have hus : (jpA d (xs.take k)).size ≤ 1440 := by
          have h1 := jpA_size hd60 (xs.take k) HO.out
          rw [List.length_take] at h1
          omega
        by_cases hlt : k < n
        · have hkl : k < xs.length := by rw [HN.out]; exact hlt
          obtain ⟨x, hx⟩ : ∃ x, xs[k]? = some x := ⟨_, List.getElem?_eq_getElem hkl⟩
          obtain ⟨g, o, rfl, hc0⟩ := HR.out k x hx
          have hgb : g < w.heap.size := HA.out (by omega) _ rfl
          have hcell : wr.cell? ⟨g, o + k, none⟩ = some (.string x) := (HB.out.cell (p := ⟨g, o + k, none⟩) hgb).trans hc0
          have HGb := Lib.hid hgb
          have HX := Lib.hid hx
          have hxz := HXs.out x (List.mem_of_getElem? hx)
          have HP := Lib.hid (fun r h w => text_s x r w hxz h)
          have HN1 := Lib.hid (jpA_at d hx)
          have HO1 := Lib.hid (all_at hx)
          have HNo := Lib.hid (fun h => HEf.out (all_no hx h))
          clear hx hc0 hkl
          cases hok : okX x.data.toList with
          | false =>
            have HE := Lib.hid (HNo.out hok)
            have HP' := Lib.hid (HP.out false hok)
            clear hok HP HNo HEn HEf hgb
            go_wp2_with fail
            refine (HP'.out _).mono ?_
            rintro e w' ⟨rfl, hw⟩
            subst hw
            go_wp2_with fail
            go_ret2
            exact ⟨by rw [HE.out]; rfl, HB.out⟩
          | true =>
            have HP' := Lib.hid (HP.out true hok)
            have hx60 : x.size ≤ 60 := okB_size hok
            have HO2 : Hid ((xs.take (k + 1)).all okB = true) := Lib.hid (by rw [HO1.out, HO.out, Bool.true_and]; exact hok)
            generalize jpA d (xs.take k) = U at *
            clear hok HP HNo HEf HO1 HO hgb
            by_cases hx0 : 0 < x.size
            · obtain ⟨e1, e2⟩ := Kt.ne_str hx0
              by_cases hu0 : 0 < U.size
              · obtain ⟨e3, e4⟩ := Kt.ne_str hu0
                have hN : jpA d (xs.take (k + 1)) = jB (jB U d) x := by rw [HN1.out, jpS_next hx0 hu0]
                have HN2 := Lib.hid hN
                have hjs : (jB U d).size ≤ 1048576 := by have := jB_size U d; omega
                have HJ1 := Lib.hid (fun w => l11Two_s U d w (by omega) (by omega))
                have HJ2 := Lib.hid (fun w => l11Two_s (jB U d) x w hjs (by omega))
                generalize jB (jB U d) x = Z at *
                generalize jB U d = Y at *
                clear HN1 hN hx0 hu0
                go_wp2_with fail
                refine (HP'.out _).mono ?_
                rintro e w' ⟨rfl, hw⟩
                subst hw
                go_wp2_with fail
                refine (HJ1.out _).mono ?_
                rintro e w1 ⟨rfl, b1⟩
                have hB1 := HB.out.trans (b1.mono HB.out.size)
                have HB1 := Lib.hid hB1
                have hcell1 : w1.cell? ⟨g, o + k, none⟩ = some (.string x) := (b1.cell (p := ⟨g, o + k, none⟩) (Nat.lt_of_lt_of_le HGb.out HB.out.size)).trans hcell
                clear hB1 b1 hcell
                go_wp2_with fail
                refine (HJ2.out _).mono ?_
                rintro e w2 ⟨rfl, b2⟩
                have HB2 := Lib.hid (HB1.out.trans (b2.mono HB1.out.size))
                clear b2 hcell1
                go_wp2_with fail
                go_roundw
                case rel => exact ⟨k + 1, by omega, by go_num, by rw [HN2.out], HO2, HB2⟩
                case measure => simp [intOf]; omega
              · obtain rfl := Kt.nil_str hu0
                have HN2 : Hid (jpA d (xs.take (k + 1)) = x) := Lib.hid (by rw [HN1.out, jpS_first hx0])
                have HJ2 := Lib.hid (fun w => l11Two_s ⟨#[]⟩ x w (by decide) (by omega))
                rw [jB_nil] at HJ2
                clear HN1 hx0 hu0
                go_wp2_with fail
                refine (HP'.out _).mono ?_
                rintro e w' ⟨rfl, hw⟩
                subst hw
                go_wp2_with fail
                refine (HJ2.out _).mono ?_
                rintro e w2 ⟨rfl, b2⟩
                have HB2 := Lib.hid (HB.out.trans (b2.mono HB.out.size))
                clear b2 hcell
                go_wp2_with fail
                go_roundw
                case rel => exact ⟨k + 1, by omega, by go_num, by rw [HN2.out], HO2, HB2⟩
                case measure => simp [intOf]; omega
            · obtain rfl := Kt.nil_str hx0
              have HN2 : Hid (jpA d (xs.take (k + 1)) = U) := Lib.hid (by rw [HN1.out, jpS_nil])
              clear HN1 hx0
              go_wp2_with fail
              refine (HP'.out _).mono ?_
              rintro e w' ⟨rfl, hw⟩
              subst hw
              go_wp2_with fail
              go_roundw
              case rel => exact ⟨k + 1, by omega, by go_num, by rw [HN2.out], HO2, HB⟩
              case measure => simp [intOf]; omega
        · have ht : xs.take k = xs := List.take_of_length_le (by rw [HN.out]; omega)
          have HE : Hid (jpV xs d = .tuple #[.string (jpA d (xs.take k)), .bool true]) := Lib.hid (by rw [ht]; exact HEn.out (by have := HO.out; rw [ht] at this; exact this))
          clear ht
          go_wp2_with fail
          go_ret2
          exact ⟨by rw [HE.out]; rfl, HB.out⟩
set_option maxHeartbeats 8000000 in
theorem parts_i (A : Option Addr) (c n : Nat) (xs : List ByteArray) (d : ByteArray) (w : World) (ht : MarkTab w) (hr : RdS w A xs) (hA : 0 < n → ∀ a, A = some a → a.block < w.heap.size) (hn : xs.length = n) (hm : n ≤ 1048576) (hxs : ∀ x ∈ xs, x.size ≤ 1048576) (hd : d.size ≤ 1048576) :
    Calls Tryd.prog 8 #[.slice A n c, .string d] w fun e w' => e = .returned (jpV xs d) ∧ Below w.heap.size w w' := by
  have HR := Lib.hid hr
  have HA := Lib.hid hA
  have HN := Lib.hid hn
  have HXs := Lib.hid hxs
  have HD := Lib.hid (fun r h w => isPart_i d r w hd h)
  have HT := Lib.hid ht
  clear ht
  clear hr hA hn hxs
  by_cases h12 : 12 < n
  · have HE : Hid (jpV xs d = .tuple #[.string ⟨#[]⟩, .bool false]) := Lib.hid (by unfold jpV; rw [if_neg (fun h => by have := h.1.1; rw [HN.out] at this; omega)])
    have hg : decide ((12 : Int) < (n : Int)) = true := by simp; omega
    clear h12
    go_enter Tryd.func8, Tryd.ntmps8
    go_wp2_with fail
    go_ret2
    exact ⟨by rw [HE.out]; rfl, Below.refl _ _⟩
  · have hg : decide ((12 : Int) < (n : Int)) = false := by simp; omega
    cases hdx : okX d.data.toList with
    | false =>
      have HE : Hid (jpV xs d = .tuple #[.string ⟨#[]⟩, .bool false]) := Lib.hid (by unfold jpV; rw [if_neg (fun h => by have := h.1.2; unfold okB at this; rw [hdx] at this; cases this)])
      have HD' := Lib.hid (HD.out false hdx)
      clear hdx h12 HD
      go_enter Tryd.func8, Tryd.ntmps8
      go_wp2_with fail
      refine (HD'.out _).mono ?_
      rintro e w' ⟨rfl, rfl⟩
      go_wp2_with fail
      go_ret2
      exact ⟨by rw [HE.out]; rfl, Below.refl _ _⟩
    | true =>
      have hd60 : d.size ≤ 60 := okB_size hdx
      have HEn : Hid (∀ (h : xs.all okB = true), jpV xs d = .tuple #[.string (jpA d xs), .bool true]) := Lib.hid (fun h => by unfold jpV; rw [if_pos ⟨⟨by rw [HN.out]; omega, hdx⟩, h⟩])
      have HEf : Hid (∀ (h : xs.all okB = false), jpV xs d = .tuple #[.string ⟨#[]⟩, .bool false]) := Lib.hid (fun h => by unfold jpV; rw [if_neg (fun e => by rw [h] at e; cases e.2)])
      have HD' := Lib.hid (HD.out true hdx)
      have hn12 : n ≤ 12 := by omega
      clear hdx h12 HD
      go_enter Tryd.func8, Tryd.ntmps8
      go_wp2_with fail
      refine (HD'.out _).mono ?_
      rintro e w' ⟨rfl, hw⟩
      subst hw
      go_wp2_with fail
      go_loopw [6, 19] (fun v i wr => ∃ k : Nat, k ≤ n ∧ i = .int .i64 k ∧ v = .string (jpA d (xs.take k)) ∧ Hid ((xs.take k).all okB = true) ∧ Hid (Below w.heap.size w wr)) (fun _ i _ => n - (intOf i).toNat)
      case atStart => exact ⟨0, Nat.zero_le _, rfl, rfl, Lib.hid rfl, Lib.hid (Below.refl _ _)⟩
      case round =>
        obtain ⟨k, hk, rfl, rfl, HO, HB⟩ := hrel
        have hus : (jpA d (xs.take k)).size ≤ 1440 := by
          have h1 := jpA_size hd60 (xs.take k) HO.out
          rw [List.length_take] at h1
          omega
        by_cases hlt : k < n
        · have hkl : k < xs.length := by rw [HN.out]; exact hlt
          obtain ⟨x, hx⟩ : ∃ x, xs[k]? = some x := ⟨_, List.getElem?_eq_getElem hkl⟩
          obtain ⟨g, o, rfl, hc0⟩ := HR.out k x hx
          have hgb : g < w.heap.size := HA.out (by omega) _ rfl
          have hcell : wr.cell? ⟨g, o + k, none⟩ = some (.string x) := (HB.out.cell (p := ⟨g, o + k, none⟩) hgb).trans hc0
          have HGb := Lib.hid hgb
          have HX := Lib.hid hx
          have hxz := HXs.out x (List.mem_of_getElem? hx)
          have HP := Lib.hid (fun r h w => isPart_i x r w hxz h)
          have HN1 := Lib.hid (jpA_at d hx)
          have HO1 := Lib.hid (all_at hx)
          have HNo := Lib.hid (fun h => HEf.out (all_no hx h))
          clear hx hc0 hkl
          cases hok : okX x.data.toList with
          | false =>
            have HE := Lib.hid (HNo.out hok)
            have HP' := Lib.hid (HP.out false hok)
            clear hok HP HNo HEn HEf hgb
            go_wp2_with fail
            refine (HP'.out _).mono ?_
            rintro e w' ⟨rfl, hw⟩
            subst hw
            go_wp2_with fail
            go_ret2
            exact ⟨by rw [HE.out]; rfl, HB.out⟩
          | true =>
            have HP' := Lib.hid (HP.out true hok)
            have hx60 : x.size ≤ 60 := okB_size hok
            have HO2 : Hid ((xs.take (k + 1)).all okB = true) := Lib.hid (by rw [HO1.out, HO.out, Bool.true_and]; exact hok)
            generalize jpA d (xs.take k) = U at *
            clear hok HP HNo HEf HO1 HO hgb
            by_cases hx0 : 0 < x.size
            · obtain ⟨e1, e2⟩ := Kt.ne_str hx0
              by_cases hu0 : 0 < U.size
              · obtain ⟨e3, e4⟩ := Kt.ne_str hu0
                have hN : jpA d (xs.take (k + 1)) = jB (jB U d) x := by rw [HN1.out, jpS_next hx0 hu0]
                have HN2 := Lib.hid hN
                have hjs : (jB U d).size ≤ 1048576 := by have := jB_size U d; omega
                have HJ1 := Lib.hid (fun w (hm : MarkTab w) => joinTwo_i U d w hm (by omega) (by omega))
                have HJ2 := Lib.hid (fun w (hm : MarkTab w) => joinTwo_i (jB U d) x w hm hjs (by omega))
                generalize jB (jB U d) x = Z at *
                generalize jB U d = Y at *
                clear HN1 hN hx0 hu0
                go_wp2_with fail
                refine (HP'.out _).mono ?_
                rintro e w' ⟨rfl, hw⟩
                subst hw
                go_wp2_with fail
                refine (HJ1.out _ (HT.out.below HB.out)).mono ?_
                rintro e w1 ⟨rfl, b1⟩
                have hB1 := HB.out.trans (b1.mono HB.out.size)
                have HB1 := Lib.hid hB1
                have hcell1 : w1.cell? ⟨g, o + k, none⟩ = some (.string x) := (b1.cell (p := ⟨g, o + k, none⟩) (Nat.lt_of_lt_of_le HGb.out HB.out.size)).trans hcell
                clear hB1 b1 hcell
                go_wp2_with fail
                refine (HJ2.out _ (HT.out.below HB1.out)).mono ?_
                rintro e w2 ⟨rfl, b2⟩
                have HB2 := Lib.hid (HB1.out.trans (b2.mono HB1.out.size))
                clear b2 hcell1
                go_wp2_with fail
                go_roundw
                case rel => exact ⟨k + 1, by omega, by go_num, by rw [HN2.out], HO2, HB2⟩
                case measure => simp [intOf]; omega
              · obtain rfl := Kt.nil_str hu0
                have HN2 : Hid (jpA d (xs.take (k + 1)) = x) := Lib.hid (by rw [HN1.out, jpS_first hx0])
                clear HN1 hx0 hu0
                go_wp2_with fail
                refine (HP'.out _).mono ?_
                rintro e w' ⟨rfl, hw⟩
                subst hw
                go_wp2_with fail
                go_roundw
                case rel => exact ⟨k + 1, by omega, by go_num, by rw [HN2.out], HO2, HB⟩
                case measure => simp [intOf]; omega
            · obtain rfl := Kt.nil_str hx0
              have HN2 : Hid (jpA d (xs.take (k + 1)) = U) := Lib.hid (by rw [HN1.out, jpS_nil])
              clear HN1 hx0
              go_wp2_with fail
              refine (HP'.out _).mono ?_
              rintro e w' ⟨rfl, hw⟩
              subst hw
              go_wp2_with fail
              go_roundw
              case rel => exact ⟨k + 1, by omega, by go_num, by rw [HN2.out], HO2, HB⟩
              case measure => simp [intOf]; omega
        · have ht : xs.take k = xs := List.take_of_length_le (by rw [HN.out]; omega)
          have HE : Hid (jpV xs d = .tuple #[.string (jpA d (xs.take k)), .bool true]) := Lib.hid (by rw [ht]; exact HEn.out (by have := HO.out; rw [ht] at this; exact this))
          clear ht
          go_wp2_with fail
          go_ret2
          exact ⟨by rw [HE.out]; rfl, HB.out⟩
end Go.Proofs.YtnijmhhigkbddaaDoor.Mq
