/-
  Contracts of isPart, l11Text; joinTwo, l11Two; JoinTwo of both.
-/
import Derived.Test.YtnijmhhigkbddaaDoorMqG
import Derived.Test.YtnijmhhigkbddaaDoorPr
import Derived.IntWalk
namespace Go.Proofs.YtnijmhhigkbddaaDoor.Mq
open Go.RowKit Pl NmPl MqPl
set_option linter.unusedSimpArgs false
set_option linter.unusedVariables false

theorem below_of {P : Program} {f : FuncId} {args : Array Value} {w : World} {v : Value} (h : Calls P f args w fun e w' => e = .returned v ∧ w = w') : Calls P f args w fun e w' => e = .returned v ∧ Below w.heap.size w w' :=
  h.mono (fun e w' hh => ⟨hh.1, hh.2 ▸ Below.refl _ _⟩)
theorem okX_pr (l : List UInt8) : okX l = (decide (l.length ≤ 60) && l.all Kt.pr) := rfl
set_option maxHeartbeats 1000000 in
theorem isPart_i (s : ByteArray) (r : Bool) (w : World) (hs : s.size ≤ 1048576) (hr : okX s.data.toList = r) : Calls Tryd.prog 18 #[.string s] w fun e w' => e = .returned (.bool r) ∧ w = w' := by
  rw [okX_pr, len_size] at hr
  have HR := Lib.hid hr.symm
  have HP := Lib.hid (fun w => Kt.isPrint s (s.data.toList.all Kt.pr) w hs rfl)
  clear hr
  generalize s.data.toList.all Kt.pr = q at *
  by_cases h : s.size ≤ 60
  · have hd : decide ((s.size : Int) ≤ 60) = true := by simp; omega
    have HE : Hid (r = q) := Lib.hid (by rw [HR.out]; simp [h])
    go_enter Tryd.func18, Tryd.ntmps18
    go_wp2_with fail
    refine (HP.out _).mono ?_
    rintro e w' ⟨rfl, rfl⟩
    go_wp2_with fail
    go_ret
    exact ⟨by rw [HE.out]; rfl, rfl⟩
  · have hd : decide ((s.size : Int) ≤ 60) = false := by simp; omega
    have HE : Hid (r = false) := Lib.hid (by rw [HR.out]; simp [h])
    go_enter Tryd.func18, Tryd.ntmps18
    go_wp2_with fail
    go_ret
    exact ⟨by rw [HE.out]; rfl, rfl⟩
set_option maxHeartbeats 2000000 in
theorem text_s (s : ByteArray) (r : Bool) (w : World) (hs : s.size ≤ 1048576) (hr : okX s.data.toList = r) : Calls Tryd.prog 20 #[.string s] w fun e w' => e = .returned (.bool r) ∧ w = w' := by
  rw [okX_pr, len_size] at hr
  have HR := Lib.hid hr.symm
  clear hr
  go_enter Tryd.func20, Tryd.ntmps20
  go_wp2_with fail
  go_loop [3] (fun i => ∃ k : Nat, k ≤ s.size ∧ i = .int .i64 k ∧ Hid ((s.data.toList.drop k).all Kt.pr = s.data.toList.all Kt.pr)) (fun i => s.size - (intOf i).toNat)
  case atStart => exact ⟨0, Nat.zero_le _, rfl, Lib.hid rfl⟩
  case round =>
    obtain ⟨k, hk, rfl, HD⟩ := hrel
    by_cases hlt : k < s.size
    · have HA := Lib.hid (Kt.all_at Kt.pr s k hlt)
      have hcl := s[k].toNat_lt
      by_cases h1 : 32 ≤ s[k].toNat
      · have hb1 : decide ((s[k].toNat : Int) < 32) = false := by simp; omega
        by_cases h2 : s[k].toNat ≤ 126
        · have hb2 : decide (126 < (s[k].toNat : Int)) = false := by simp; omega
          have HK : Hid (Kt.pr s[k] = true) := Lib.hid (decide_eq_true ⟨h1, h2⟩)
          clear h1 h2
          go_wp2_with fail
          go_round
          case rel => exact ⟨k + 1, by omega, by go_num, Lib.hid (by rw [← HD.out, HA.out, HK.out]; rfl)⟩
          case measure => simp [intOf]; omega
        · have hb2 : decide (126 < (s[k].toNat : Int)) = true := by simp; omega
          have HK : Hid (Kt.pr s[k] = false) := Lib.hid (decide_eq_false (fun h => h2 h.2))
          have HF : Hid (r = false) := Lib.hid (by rw [HR.out, ← HD.out, HA.out, HK.out]; simp)
          clear h1 h2
          go_wp2_with fail
          go_ret
          exact ⟨by rw [HF.out]; rfl, rfl⟩
      · have hb1 : decide ((s[k].toNat : Int) < 32) = true := by simp; omega
        have HK : Hid (Kt.pr s[k] = false) := Lib.hid (decide_eq_false (fun h => h1 h.1))
        have HF : Hid (r = false) := Lib.hid (by rw [HR.out, ← HD.out, HA.out, HK.out]; simp)
        clear h1
        go_wp2_with fail
        go_ret
        exact ⟨by rw [HF.out]; rfl, rfl⟩
    · have HF : Hid (r = decide ((s.size : Int) ≤ 60)) := Lib.hid (by
        rw [HR.out, ← HD.out, Kt.all_end Kt.pr s k (by omega), Bool.and_true, Bool.eq_iff_iff]
        simp; omega)
      go_wp2_with fail
      go_ret
      exact ⟨by rw [HF.out]; rfl, rfl⟩
/-- the joined text as a string -/
def jB (a b : ByteArray) : ByteArray := ba (jt a.data.toList b.data.toList)
theorem jB_size (a b : ByteArray) : (jB a b).size ≤ a.size + b.size := by
  unfold jB; rw [ba_size]; have := jt_len a.data.toList b.data.toList; rw [len_size, len_size] at this; exact this
theorem ext_l {a b : ByteArray} (h : a.data.toList = b.data.toList) : a = b := by rw [← ba_toList a, h, ba_toList]
theorem app_l (a b : ByteArray) : (a ++ b).data.toList = a.data.toList ++ b.data.toList := by simp
theorem jB_nil_l (b : ByteArray) : jB ⟨#[]⟩ b = ⟨#[]⟩ ++ b := ext_l (by rw [app_l]; unfold jB; rw [toList_ba]; exact (jt_nil_l _).trans rfl)
theorem jB_nil_r (a : ByteArray) : jB a ⟨#[]⟩ = a ++ ⟨#[]⟩ := ext_l (by rw [app_l]; unfold jB; rw [toList_ba, jt_nil_r]; simp)
theorem jB_at (a b : ByteArray) (ha : 0 < a.size) (hb : 0 < b.size) : jB a b = a.extract 0 (a.size - 1) ++ ba (sm (a[a.size - 1]'(by omega)) b[0]) ++ b.extract 1 b.size := by
  obtain ⟨l, hl⟩ := last_snoc a ha
  have hd := drop_cons b 0 hb
  rw [List.drop_zero] at hd
  apply ext_l
  rw [app_l, app_l, extract_list, extract_list, toList_ba, toList_ba, toList_ba]
  unfold jB
  rw [toList_ba]
  have e1 : (List.take (a.size - 1) a.data.toList).drop 0 = l := by
    have h1 : a.size - 1 = l.length := by have := len_size a; rw [hl] at this; simp at this; omega
    rw [List.drop_zero, h1, hl]
    simp
  have e2 : (List.take b.size b.data.toList).drop 1 = b.data.toList.drop (0 + 1) := by rw [take_all b _ (Nat.le_refl _)]
  rw [e1, e2]
  conv => lhs; rw [hd, hl]
  rw [jt_at, List.append_assoc]
theorem jB_k (a b : ByteArray) (k : Nat) (hk : k < a.size) (h1 : a.size = k + 1) (hb : 0 < b.size) : jB a b = a.extract 0 k ++ ba (sm a[k] b[0]) ++ b.extract 1 b.size := by
  obtain rfl : k = a.size - 1 := by omega
  exact jB_at a b (by omega) hb
theorem of_drew {w w1 : World} (b : Below w.drew.heap.size w.drew w1) : Below w.heap.size w w1 := by
  have h1 : Below w.heap.size w w.drew := ⟨rfl, rfl, rfl, Nat.le_refl _, fun _ _ => rfl⟩
  exact h1.trans b
theorem ne32 {c : UInt8} (h : c ≠ 32) : ((c.toNat : Int) == 32) = false := by
  rw [beq_eq_false_iff_ne]; intro e; exact h (UInt8.toNat_inj.1 (show c.toNat = (32 : UInt8).toNat by have : (32 : UInt8).toNat = 32 := rfl; omega))
set_option maxHeartbeats 4000000 in
theorem joinTwo_i (a b : ByteArray) (w : World) (ht : MarkTab w) (ha : a.size ≤ 1048576) (hb : b.size ≤ 1048576) :
    Calls Tryd.prog 19 #[.string a, .string b] w fun e w' => e = .returned (.string (jB a b)) ∧ Below w.heap.size w w' := by
  have HT := Lib.hid ht
  clear ht
  by_cases h1 : 0 < a.size
  · by_cases h2 : 0 < b.size
    · obtain ⟨k, hk⟩ : ∃ k, a.size = k + 1 := ⟨a.size - 1, by omega⟩
      have hka : k < a.size := by omega
      have HE := Lib.hid (jB_k a b k hka hk h2)
      have HS := Lib.hid (fun w' (hm : MarkTab w') => seam_i a[k] b[0] w' hm)
      have hw1 : IntKind.i64.wrap ((a.size : Int) - 1) = (k : Int) := by rw [IntWalk.i64_in _ (by omega)]; omega
      have hss : (ba (sm a[k] b[0])).size ≤ 2 := by rw [ba_size]; exact (sm_len _ _).2
      generalize hr : ba (sm a[k] b[0]) = R at *
      have HR := Lib.hid hr
      clear hr
      have HK := Lib.hid hk
      have hk2 : (k : Int) ≤ (a.size : Int) := by omega
      clear hk
      obtain ⟨ea1, ea2⟩ := Kt.ne_str h1
      obtain ⟨eb1, eb2⟩ := Kt.ne_str h2
      have HTd : Hid (MarkTab w.drew) := Lib.hid (HT.out.below ⟨rfl, rfl, rfl, Nat.le_refl _, fun _ _ => rfl⟩)
      go_enter Tryd.func19, Tryd.ntmps19
      go_wp2_with fail
      go_region_with (go_at_call 29; refine (HS.out _ HTd.out).mono ?_; rintro e w1 ⟨rfl, b1⟩)
      all_goals go_wp2_with fail
      all_goals go_ret
      all_goals exact ⟨by rw [HE.out]; rfl, of_drew b1⟩
    · obtain rfl := Kt.nil_str h2
      have HE := Lib.hid (jB_nil_r a)
      go_enter Tryd.func19, Tryd.ntmps19
      go_wp2_with fail
      all_goals
        go_ret
        exact ⟨by rw [HE.out]; rfl, Below.refl _ _⟩
  · obtain rfl := Kt.nil_str h1
    have HE := Lib.hid (jB_nil_l b)
    go_enter Tryd.func19, Tryd.ntmps19
    go_wp2_with fail
    go_ret
    exact ⟨by rw [HE.out]; rfl, Below.refl _ _⟩
theorem two_bytes (x y : UInt8) (h : ¬ (x = 32 ∧ y = 32)) : sm x y = mg x y := if_neg h
theorem mg_no {x y : UInt8} (h : isM x = false ∨ isM y = false) : mg x y = [x, y] := by
  unfold mg
  rcases h with h | h
  · rw [rm_no_a h]
  · rw [rm_no_b h]
/-- both whole, where nothing is replaced -/
theorem jB_app (a b : ByteArray) (k : Nat) (hk : k < a.size) (h1 : a.size = k + 1) (hb : 0 < b.size) (h : sm a[k] b[0] = [a[k], b[0]]) : jB a b = a ++ b := by
  rw [jB_k a b k hk h1 hb, h]
  apply ext_l
  rw [app_l, app_l, app_l, extract_list, extract_list, toList_ba, toList_ba, toList_ba, take_all b _ (Nat.le_refl _), List.drop_zero]
  have e1 := take_snoc a k hk
  have e2 := drop_cons b 0 hb
  rw [List.drop_zero] at e2
  rw [take_all a (k + 1) (by omega)] at e1
  conv => rhs; rw [e1, e2]
  simp
/-- two spaces -/
theorem jB_sp (a b : ByteArray) (k : Nat) (hk : k < a.size) (h1 : a.size = k + 1) (hb : 0 < b.size) (h : a[k] = 32) (h2 : b[0] = 32) : jB a b = a ++ b.extract 1 b.size := by
  rw [jB_k a b k hk h1 hb, h, h2]
  apply ext_l
  rw [app_l, app_l, app_l, extract_list, extract_list, toList_ba, toList_ba, toList_ba, List.drop_zero]
  have e1 := take_snoc a k hk
  rw [take_all a (k + 1) (by omega), h] at e1
  conv => rhs; rw [e1]
  rw [show sm 32 32 = [32] from if_pos ⟨rfl, rfl⟩, take_all b _ (Nat.le_refl _)]
set_option maxHeartbeats 4000000 in
theorem l11Two_s (a b : ByteArray) (w : World) (ha : a.size ≤ 1048576) (hb : b.size ≤ 1048576) :
    Calls Tryd.prog 21 #[.string a, .string b] w fun e w' => e = .returned (.string (jB a b)) ∧ Below w.heap.size w w' := by
  by_cases h1 : 0 < a.size
  · by_cases h2 : 0 < b.size
    · obtain ⟨k, hk⟩ : ∃ k, a.size = k + 1 := ⟨a.size - 1, by omega⟩
      have hka : k < a.size := by omega
      have HJ := Lib.hid (jB_k a b k hka hk h2)
      have HA := Lib.hid (jB_app a b k hka hk h2)
      have HP := Lib.hid (jB_sp a b k hka hk h2)
      have HM := Lib.hid (fun w (p1 : isM a[k] = true) (p2 : isM b[0] = true) => merge_s a[k] b[0] w p1 p2)
      have hw1 : IntKind.i64.wrap ((a.size : Int) - 1) = (k : Int) := by rw [IntWalk.i64_in _ (by omega)]; omega
      have hss : (ba (sm a[k] b[0])).size ≤ 2 := by rw [ba_size]; exact (sm_len _ _).2
      have hk2 : (k : Int) ≤ (a.size : Int) := by omega
      obtain ⟨ea1, ea2⟩ := Kt.ne_str h1
      obtain ⟨eb1, eb2⟩ := Kt.ne_str h2
      obtain ⟨za, hza, hda⟩ := isM_z (c := a[k]) rfl
      obtain ⟨zb, hzb, hdb⟩ := isM_z (c := b[0]) rfl
      have HKa := Lib.hid (fun w => mark_s a[k] za w hza)
      have HKb := Lib.hid (fun w => mark_s b[0] zb w hzb)
      have HK := Lib.hid hk
      have HDa := Lib.hid hda
      have HDb := Lib.hid hdb
      clear hk hza hzb hda hdb
      by_cases hs : a[k] = 32 ∧ b[0] = 32
      · have HE := Lib.hid (HP.out hs.1 hs.2)
        have e1 : ((a[k].toNat : Int) == 32) = true := by rw [hs.1]; rfl
        have e2 : ((b[0].toNat : Int) == 32) = true := by rw [hs.2]; rfl
        clear hs
        go_enter Tryd.func21, Tryd.ntmps21
        go_wp2_with fail
        go_quiet (fail)
        go_wp2_with fail
        go_ret
        exact ⟨by rw [HE.out]; rfl, below_drewN (Below.refl _ _) _⟩
      · have HS : Hid (sm a[k] b[0] = mg a[k] b[0]) := Lib.hid (if_neg hs)
        have hq : ((a[k].toNat : Int) == 32) = false ∨ (((a[k].toNat : Int) == 32) = true ∧ ((b[0].toNat : Int) == 32) = false) := by
          by_cases hx : a[k] = 32
          · exact .inr ⟨by rw [hx]; rfl, ne32 (fun hy => hs ⟨hx, hy⟩)⟩
          · exact .inl (ne32 hx)
        clear hs
        cases ma : isM a[k] with
        | false =>
          have HE := Lib.hid (HA.out (by rw [HS.out, mg_no (.inl ma)]))
          have hda := HDa.out
          rw [ma] at hda
          have hga : decide (0 ≤ za) = false := by simp at hda ⊢; omega
          clear ma hda
          rcases hq with hq | ⟨hq, hq2⟩
          all_goals
            go_enter Tryd.func21, Tryd.ntmps21
            go_wp2_with fail
            go_quiet (fail)
            go_wp2_with fail
            refine (HKa.out _).mono ?_
            rintro e w' ⟨rfl, hw⟩
            subst hw
            go_wp2_with fail
            go_ret
            exact ⟨by rw [HE.out]; rfl, below_drewN (Below.refl _ _) _⟩
        | true =>
          cases mb : isM b[0] with
          | false =>
            have HE := Lib.hid (HA.out (by rw [HS.out, mg_no (.inr mb)]))
            have hda := HDa.out
            have hdb := HDb.out
            rw [ma] at hda
            rw [mb] at hdb
            have hga : decide (0 ≤ za) = true := by simp at hda ⊢; omega
            have hgb : decide (0 ≤ zb) = false := by simp at hdb ⊢; omega
            clear ma hda mb hdb
            rcases hq with hq | ⟨hq, hq2⟩
            all_goals
              go_enter Tryd.func21, Tryd.ntmps21
              go_wp2_with fail
              go_quiet (fail)
              go_wp2_with fail
              refine (HKa.out _).mono ?_
              rintro e w' ⟨rfl, hw⟩
              subst hw
              go_wp2_with fail
              refine (HKb.out _).mono ?_
              rintro e w' ⟨rfl, hw⟩
              subst hw
              go_wp2_with fail
              go_ret
              exact ⟨by rw [HE.out]; rfl, below_drewN (Below.refl _ _) _⟩
          | true =>
            have HE := HJ
            rw [HS.out] at HE hss
            have HMt := Lib.hid (fun w => HM.out w ma mb)
            have hda := HDa.out
            have hdb := HDb.out
            rw [ma] at hda
            rw [mb] at hdb
            have hga : decide (0 ≤ za) = true := by simp at hda ⊢; omega
            have hgb : decide (0 ≤ zb) = true := by simp at hdb ⊢; omega
            clear ma hda mb hdb HS HM HJ HA HP
            generalize hr : ba (mg a[k] b[0]) = R at *
            have HR := Lib.hid hr
            clear hr
            rcases hq with hq | ⟨hq, hq2⟩
            all_goals
              go_enter Tryd.func21, Tryd.ntmps21
              go_wp2_with fail
              go_quiet (fail)
              go_wp2_with fail
              refine (HKa.out _).mono ?_
              rintro e w' ⟨rfl, hw⟩
              subst hw
              go_wp2_with fail
              refine (HKb.out _).mono ?_
              rintro e w' ⟨rfl, hw⟩
              subst hw
              have hB0 := below_drewN (Below.refl w.heap.size w) nq
              generalize w.drewN nq = w0 at *
              have HB0 := Lib.hid hB0
              clear hB0
              go_wp2_with fail
              go_region_with (go_at_call 30; refine (HMt.out _).mono ?_; rintro e w1 ⟨rfl, b1⟩)
              all_goals go_wp2_with fail
              all_goals go_ret
              all_goals exact ⟨by rw [HE.out]; rfl, HB0.out.trans ((of_drew b1).mono HB0.out.size)⟩
    · obtain rfl := Kt.nil_str h2
      have HE := Lib.hid (jB_nil_r a)
      go_enter Tryd.func21, Tryd.ntmps21
      go_wp2_with fail
      all_goals
        go_ret
        exact ⟨by rw [HE.out]; rfl, Below.refl _ _⟩
  · obtain rfl := Kt.nil_str h1
    have HE := Lib.hid (jB_nil_l b)
    go_enter Tryd.func21, Tryd.ntmps21
    go_wp2_with fail
    go_ret
    exact ⟨by rw [HE.out]; rfl, Below.refl _ _⟩
end Go.Proofs.YtnijmhhigkbddaaDoor.Mq
