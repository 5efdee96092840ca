/-
  Contracts of replacingByte; l11Once, l11Trim, l11Clean.
-/
import Derived.Test.YtknilobmiandgaaDoorMqJ
import Derived.Test.YtknilobmiandgaaDoorMqCp
namespace Go.Proofs.YtknilobmiandgaaDoor.Mq
open Go.RowKit Pl NmPl MqPl
set_option linter.unusedSimpArgs false
set_option linter.unusedVariables false

/-- what replacingByte answers -/
def rpV (a b : UInt8) : Value := match rp a b with | some x => .tuple #[.int .u8 x.toNat, .bool true] | none => .tuple #[.int .u8 0, .bool false]
theorem rp_rm {a b : UInt8} (h : ¬ (a = 32 ∧ (b = 32 ∨ isM b = true))) : rp a b = rm a b := if_neg h
theorem rp_sp {a b : UInt8} (h : a = 32 ∧ (b = 32 ∨ isM b = true)) : rp a b = some b := if_pos h
theorem rmV_form (a b : UInt8) : ∃ z q, rmV a b = .tuple #[.int .u8 z, .bool q] := by unfold rmV; split <;> exact ⟨_, _, rfl⟩
set_option maxHeartbeats 2000000 in
theorem rpb_i (a b : UInt8) (w : World) (ht : MarkTab w) : Calls Tryd.prog 33 #[.int .u8 a.toNat, .int .u8 b.toNat] w fun e w' => e = .returned (rpV a b) ∧ w = w' := by
  have HB := Lib.hid (fun r h w => isMark_i b r w h)
  have HR := Lib.hid (rep_i a b w ht)
  clear ht
  by_cases h1 : a = 32
  · have e1 : ((a.toNat : Int) == 32) = true := by rw [h1]; rfl
    by_cases h2 : b = 32
    · have e2 : ((b.toNat : Int) == 32) = true := by rw [h2]; rfl
      have HE : Hid (rpV a b = .tuple #[.int .u8 b.toNat, .bool true]) := Lib.hid (by unfold rpV; rw [rp_sp ⟨h1, .inl h2⟩])
      clear h1 h2
      go_enter Tryd.func33, Tryd.ntmps33
      go_wp2_with fail
      go_ret2
      exact ⟨by rw [HE.out]; rfl, rfl⟩
    · have e2 : ((b.toNat : Int) == 32) = false := ne32 h2
      cases h3 : isM b with
      | true =>
        have HB' := Lib.hid (HB.out true h3)
        have HE : Hid (rpV a b = .tuple #[.int .u8 b.toNat, .bool true]) := Lib.hid (by unfold rpV; rw [rp_sp ⟨h1, .inr h3⟩])
        clear h1 h2 h3
        go_enter Tryd.func33, Tryd.ntmps33
        go_wp2_with fail
        refine (HB'.out _).mono ?_
        rintro e w' ⟨rfl, rfl⟩
        go_wp2_with fail
        go_ret2
        exact ⟨by rw [HE.out]; rfl, rfl⟩
      | false =>
        have HB' := Lib.hid (HB.out false h3)
        have HE : Hid (rpV a b = rmV a b) := Lib.hid (by unfold rpV rmV; rw [rp_rm (by rintro ⟨-, h | h⟩; exact h2 h; rw [h3] at h; cases h)]; rfl)
        obtain ⟨z, q, hf⟩ := rmV_form a b
        rw [hf] at HR HE
        clear h1 h2 h3 hf
        go_enter Tryd.func33, Tryd.ntmps33
        go_wp2_with fail
        refine (HB'.out _).mono ?_
        rintro e w' ⟨rfl, rfl⟩
        go_wp2_with fail
        refine HR.out.mono ?_
        rintro e w' ⟨rfl, rfl⟩
        go_wp2_with fail
        go_ret2
        exact ⟨by rw [HE.out]; rfl, rfl⟩
  · have e1 : ((a.toNat : Int) == 32) = false := ne32 h1
    have HE : Hid (rpV a b = rmV a b) := Lib.hid (by unfold rpV rmV; rw [rp_rm (fun h => h1 h.1)]; rfl)
    obtain ⟨z, q, hf⟩ := rmV_form a b
    rw [hf] at HR HE
    clear h1 hf
    go_enter Tryd.func33, Tryd.ntmps33
    go_wp2_with fail
    refine HR.out.mono ?_
    rintro e w' ⟨rfl, rfl⟩
    go_wp2_with fail
    go_ret2
    exact ⟨by rw [HE.out]; rfl, rfl⟩
/-- what one step of the model comes to -/
def OnceP (s T : ByteArray) (q : Bool) : Prop := (q = true → T.size + 1 = s.size ∧ runR T.data.toList = runR s.data.toList) ∧ (q = false → T = s ∧ runR s.data.toList = s.data.toList.reverse)
theorem stl_one (s : ByteArray) : stl (s.data.toList.take 1).reverse := by
  cases s.data.toList with
  | nil => trivial
  | cons a l => trivial
theorem take_two (s : ByteArray) (k : Nat) (hk : k < s.size) (hk1 : k + 1 < s.size) : s.data.toList.take (k + 1 + 1) = s.data.toList.take k ++ [s[k]] ++ [s[k + 1]] := by
  rw [take_snoc s (k + 1) hk1, take_snoc s k hk]
theorem stl_next (s : ByteArray) (k : Nat) (hk : k < s.size) (hk1 : k + 1 < s.size) (h : stl (s.data.toList.take (k + 1)).reverse) (h2 : rp s[k] s[k + 1] = none) : stl (s.data.toList.take (k + 1 + 1)).reverse := by
  rw [take_two s k hk hk1, List.reverse_append]
  rw [take_snoc s k hk] at h
  have e : (List.take k s.data.toList ++ [s[k]]).reverse = s[k] :: (List.take k s.data.toList).reverse := by simp
  rw [e] at h ⊢
  exact ⟨h2, h⟩
theorem once_end (s : ByteArray) (k : Nat) (h : stl (s.data.toList.take (k + 1)).reverse) (hk : s.size ≤ k + 1) : OnceP s s false := by
  refine ⟨(fun h => by cases h), fun _ => ⟨rfl, ?_⟩⟩
  rw [take_all s _ hk] at h
  exact runR_stl _ h
theorem once_change (s T : ByteArray) (k : Nat) (hk : k < s.size) (hk1 : k + 1 < s.size) (h : stl (s.data.toList.take (k + 1)).reverse) (x : UInt8) (hx : rp s[k] s[k + 1] = some x)
    (hT : T.data.toList = s.data.toList.take k ++ [x] ++ s.data.toList.drop (k + 2)) : OnceP s T true := by
  have hs : s.data.toList = s.data.toList.take k ++ [s[k], s[k + 1]] ++ s.data.toList.drop (k + 2) := by
    have h1 := take_two s k hk hk1
    have h2 := List.take_append_drop (k + 2) s.data.toList
    rw [show k + 2 = k + 1 + 1 from rfl, h1] at h2
    conv => lhs; rw [← h2]
    simp
  refine ⟨fun _ => ⟨?_, ?_⟩, (fun h => by cases h)⟩
  · have h1 := congrArg List.length hT
    have h2 := congrArg List.length hs
    simp only [List.length_append, List.length_cons, List.length_nil] at h1 h2
    rw [len_size] at h1 h2
    omega
  · rw [take_snoc s k hk] at h
    rw [hT]
    conv => rhs; rw [hs]
    exact (runR_change h hx).symm
theorem rp_nm {a b : UInt8} (h : isM a = false) (h32 : a ≠ 32) : rp a b = none := by rw [rp_rm (fun e => h32 e.1), rm_no_a h]
theorem rp_nb {a b : UInt8} (h : isM b = false) (hb : b ≠ 32) : rp a b = none := by
  rw [rp_rm, rm_no_b h]
  rintro ⟨-, e | e⟩
  · exact hb e
  · rw [h] at e; cases e
theorem nm32 {a : UInt8} (h : isM a = true) : a ≠ 32 := by rintro rfl; rw [m32] at h; cases h
set_option maxHeartbeats 8000000 in
theorem once_s (s : ByteArray) (w : World) (hs : s.size ≤ 1048576) :
    Calls Tryd.prog 34 #[.string s] w fun e w' => ∃ T q, e = .returned (.tuple #[.string T, .bool q]) ∧ Below w.heap.size w w' ∧ OnceP s T q := by
  go_enter Tryd.func34, Tryd.ntmps34
  go_wp2_with fail
  go_loopw [4] (fun i wr => ∃ k : Nat, k ≤ s.size ∧ i = .int .i64 k ∧ Hid (stl (s.data.toList.take (k + 1)).reverse) ∧ Hid (Below w.heap.size w wr)) (fun i _ => s.size - (intOf i).toNat)
  case atStart => exact ⟨0, Nat.zero_le _, rfl, Lib.hid (stl_one s), Lib.hid (Below.refl _ _)⟩
  case round =>
    obtain ⟨k, hk, rfl, HS, HB⟩ := hrel
    by_cases hlt : k + 1 < s.size
    · have hk0 : k < s.size := by omega
      obtain ⟨j, hj⟩ : ∃ j, j = k + 1 := ⟨_, rfl⟩
      have hji : (k : Int) + 1 = (j : Int) := by omega
      have hjs : j < s.size := by omega
      have HJ := Lib.hid hj
      have HSj : Hid (s[k + 1] = s[j]) := Lib.hid (by subst hj; rfl)
      have HN := Lib.hid (stl_next s k hk0 hlt HS.out)
      have HC := Lib.hid (fun T x hx hT => once_change s T k hk0 hlt HS.out x hx hT)
      rw [HSj.out] at HN HC
      clear hj
      obtain ⟨za, hza, hda⟩ := isM_z (c := s[k]) rfl
      obtain ⟨zb, hzb, hdb⟩ := isM_z (c := s[j]) rfl
      have HKa := Lib.hid (fun w => mark_s s[k] za w hza)
      have HKb := Lib.hid (fun w => mark_s s[j] zb w hzb)
      have HM := Lib.hid (fun w (p1 : isM s[k] = true) (p2 : isM s[j] = true) => merge_s s[k] s[j] w p1 p2)
      have hks : (k : Int) ≤ (s.size : Int) := by omega
      have hjs2 : (j : Int) ≤ (s.size : Int) := by omega
      have hEx : (s.extract 0 k ++ s.extract j s.size).data.toList = s.data.toList.take k ++ [s[j]] ++ s.data.toList.drop (k + 2) := by
        obtain rfl := HJ.out
        rw [app_l, extract_list, extract_list, toList_ba, toList_ba, take_all s _ (Nat.le_refl _), List.drop_zero, drop_cons s (k + 1) hjs, List.append_assoc]
        rfl
      have HO1 := Lib.hid (fun (h : rp s[k] s[j] = some s[j]) => HC.out (s.extract 0 k ++ s.extract j s.size) s[j] h hEx)
      have HO2 := Lib.hid (fun x (h : rp s[k] s[j] = some x) => HC.out (s.extract 0 k ++ ba [x] ++ s.extract (j + 1) s.size) x h (by
        obtain rfl := HJ.out
        rw [app_l, app_l, extract_list, extract_list, toList_ba, toList_ba, toList_ba, take_all s _ (Nat.le_refl _), List.drop_zero]))
      have hj2 : (k : Int) + 2 = ((j + 1 : Nat) : Int) := by omega
      have hj3 : ((j + 1 : Nat) : Int) ≤ (s.size : Int) := by omega
      clear HC hza hzb hEx
      by_cases h1 : s[k] = 32
      · have e1 : ((s[k].toNat : Int) == 32) = true := by rw [h1]; rfl
        by_cases h2 : s[j] = 32
        · have e2 : ((s[j].toNat : Int) == 32) = true := by rw [h2]; rfl
          have HO := Lib.hid (HO1.out (rp_sp ⟨h1, .inl h2⟩))
          clear h1 h2 HN hda hdb HO1 HO2
          go_wp2_with fail
          go_quiet (fail)
          have HB1 := Lib.hid (below_drewN HB.out nq)
          clear HB
          generalize wr.drewN nq = w1 at *
          go_wp2_with fail
          go_quiet (fail)
          go_wp2_with fail
          go_ret2
          exact ⟨_, _, rfl, below_drewN HB1.out _, HO.out⟩
        · have e2 : ((s[j].toNat : Int) == 32) = false := ne32 h2
          cases h3 : isM s[j] with
          | true =>
            have HO := Lib.hid (HO1.out (rp_sp ⟨h1, .inr h3⟩))
            rw [h3] at hdb
            have hgb : decide (0 ≤ zb) = true := by simp at hdb ⊢; omega
            clear h1 h2 h3 HN hda hdb HO1 HO2
            go_wp2_with fail
            go_quiet (fail)
            have HB1 := Lib.hid (below_drewN HB.out nq)
            clear HB
            generalize wr.drewN nq = w1 at *
            go_wp2_with fail
            refine (HKb.out _).mono ?_
            rintro e w' ⟨rfl, hw⟩
            subst hw
            go_wp2_with fail
            go_quiet (fail)
            go_wp2_with fail
            go_ret2
            exact ⟨_, _, rfl, below_drewN HB1.out _, HO.out⟩
          | false =>
            have hma : isM s[k] = false := by rw [h1]; exact m32
            have HN' : stl (List.take (k + 1 + 1) s.data.toList).reverse := HN.out (rp_nb h3 h2)
            rw [h3] at hdb
            rw [hma] at hda
            have hgb : decide (0 ≤ zb) = false := by simp at hdb ⊢; omega
            have hga : decide (0 ≤ za) = false := by simp at hda ⊢; omega
            have HN' := Lib.hid HN'
            clear h1 h2 h3 hma hda hdb HO1 HO2
            go_wp2_with fail
            go_quiet (fail)
            have HB1 := Lib.hid (below_drewN HB.out nq)
            clear HB
            generalize wr.drewN nq = w1 at *
            go_wp2_with fail
            refine (HKb.out _).mono ?_
            rintro e w' ⟨rfl, hw⟩
            subst hw
            go_wp2_with fail
            refine (HKa.out _).mono ?_
            rintro e w' ⟨rfl, hw⟩
            subst hw
            go_wp2_with fail
            go_roundw
            case rel => exact ⟨j, by omega, rfl, Lib.hid (by rw [HJ.out]; exact HN'.out), HB1⟩
            case measure => simp [intOf]; omega
      · have e1 : ((s[k].toNat : Int) == 32) = false := ne32 h1
        cases h3 : isM s[k] with
        | false =>
          have HN' := Lib.hid (HN.out (rp_nm h3 h1))
          rw [h3] at hda
          have hga : decide (0 ≤ za) = false := by simp at hda ⊢; omega
          clear h1 h3 hda hdb HO1 HO2
          go_wp2_with fail
          go_quiet (fail)
          have HB1 := Lib.hid (below_drewN HB.out nq)
          clear HB
          generalize wr.drewN nq = w1 at *
          go_wp2_with fail
          refine (HKa.out _).mono ?_
          rintro e w' ⟨rfl, hw⟩
          subst hw
          go_wp2_with fail
          go_roundw
          case rel => exact ⟨j, by omega, rfl, Lib.hid (by rw [HJ.out]; exact HN'.out), HB1⟩
          case measure => simp [intOf]; omega
        | true =>
          cases h4 : isM s[j] with
          | false =>
            have HN' := Lib.hid (HN.out (by rw [rp_rm (fun e => h1 e.1), rm_no_b h4]))
            rw [h3] at hda
            rw [h4] at hdb
            have hga : decide (0 ≤ za) = true := by simp at hda ⊢; omega
            have hgb : decide (0 ≤ zb) = false := by simp at hdb ⊢; omega
            clear h1 h3 h4 hda hdb HO1 HO2
            go_wp2_with fail
            go_quiet (fail)
            have HB1 := Lib.hid (below_drewN HB.out nq)
            clear HB
            generalize wr.drewN nq = w1 at *
            go_wp2_with fail
            refine (HKa.out _).mono ?_
            rintro e w' ⟨rfl, hw⟩
            subst hw
            go_wp2_with fail
            refine (HKb.out _).mono ?_
            rintro e w' ⟨rfl, hw⟩
            subst hw
            go_wp2_with fail
            go_roundw
            case rel => exact ⟨j, by omega, rfl, Lib.hid (by rw [HJ.out]; exact HN'.out), HB1⟩
            case measure => simp [intOf]; omega
          | true =>
            have HMt := Lib.hid (fun w => HM.out w h3 h4)
            have hrr : rp s[k] s[j] = rm s[k] s[j] := rp_rm (fun e => h1 e.1)
            rw [h3] at hda
            rw [h4] at hdb
            have hga : decide (0 ≤ za) = true := by simp at hda ⊢; omega
            have hgb : decide (0 ≤ zb) = true := by simp at hdb ⊢; omega
            clear h1 h3 h4 hda hdb HO1 HM
            cases hr : rm s[k] s[j] with
            | none =>
              have HN' := Lib.hid (HN.out (hrr.trans hr))
              have hRs : (ba (mg s[k] s[j])).size = 2 := by rw [ba_size]; unfold mg; rw [hr]; rfl
              generalize ba (mg s[k] s[j]) = R at *
              clear hrr hr HO2
              go_wp2_with fail
              go_quiet (fail)
              have HB1 := Lib.hid (below_drewN HB.out nq)
              clear HB
              generalize wr.drewN nq = w1 at *
              go_wp2_with fail
              refine (HKa.out _).mono ?_
              rintro e w' ⟨rfl, hw⟩
              subst hw
              go_wp2_with fail
              refine (HKb.out _).mono ?_
              rintro e w' ⟨rfl, hw⟩
              subst hw
              go_wp2_with fail
              refine (HMt.out _).mono ?_
              rintro e w2 ⟨rfl, b2⟩
              go_wp2_with fail
              go_roundw
              case rel => exact ⟨j, by omega, rfl, Lib.hid (by rw [HJ.out]; exact HN'.out), Lib.hid (HB1.out.trans (b2.mono HB1.out.size))⟩
              case measure => simp [intOf]; omega
            | some x =>
              have HO := Lib.hid (HO2.out x (hrr.trans hr))
              have hRx : ba (mg s[k] s[j]) = ba [x] := by unfold mg; rw [hr]
              have hRs : (ba [x]).size = 1 := by rw [ba_size]; rfl
              rw [hRx] at HMt
              generalize ba [x] = R at *
              clear hrr hr HO2 HN hRx
              go_wp2_with fail
              go_quiet (fail)
              have HB1 := Lib.hid (below_drewN HB.out nq)
              clear HB
              generalize wr.drewN nq = w1 at *
              go_wp2_with fail
              refine (HKa.out _).mono ?_
              rintro e w' ⟨rfl, hw⟩
              subst hw
              go_wp2_with fail
              refine (HKb.out _).mono ?_
              rintro e w' ⟨rfl, hw⟩
              subst hw
              go_wp2_with fail
              refine (HMt.out _).mono ?_
              rintro e w2 ⟨rfl, b2⟩
              go_wp2_with fail
              go_quiet (fail)
              go_wp2_with fail
              go_ret2
              exact ⟨_, _, rfl, below_drewN (HB1.out.trans (b2.mono HB1.out.size)) _, HO.out⟩
    · have HE := Lib.hid (once_end s k HS.out (by omega))
      obtain ⟨j, hj⟩ : ∃ j, j = k + 1 := ⟨_, rfl⟩
      have hji : (k : Int) + 1 = (j : Int) := by omega
      have hjs : ¬ j < s.size := by omega
      clear hj
      go_wp2_with fail
      go_ret2
      exact ⟨_, _, rfl, HB.out, HE.out⟩
end Go.Proofs.YtknilobmiandgaaDoor.Mq
