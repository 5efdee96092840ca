/-
  Contracts of the model: l7Cut, l7Page.
-/
import Derived.Test.YtiekplndcpcdkaaDoorPgEi
namespace Go.Proofs.YtiekplndcpcdkaaDoor.PgEp
set_option linter.ambiguousOpen false
open Go.RowKit Pl ReadPl PgPl PgTx Pg PgF PgCo PgC PgEx NmPl PgBx PgPd PgEi Stands Cut SplitPl
open Num (Tab Tab.below)
open Read (read_any ParIs)
set_option linter.unusedSimpArgs false
set_option linter.unusedVariables false

theorem stB_take {s : ByteArray} {k : Nat} (hk : k < s.size) : stB 45 (s.data.toList.take (k + 1)) = (stB 45 (s.data.toList.take k) || s[k] == 45) := by
  rw [take_snoc s k hk]
  unfold stB
  rw [Bool.eq_iff_iff, Bool.or_eq_true, List.contains_iff_mem, List.contains_iff_mem, beq_iff_eq, List.mem_append, List.mem_singleton, eq_comm (a := (45 : UInt8))]
theorem cut_at {s : ByteArray} {k : Nat} (hk : k < s.size) (h : stB 45 (s.data.toList.take k) = false) (he : s[k] = 45) : fst s.data.toList = s.data.toList.take k ∧ snd s.data.toList = s.data.toList.drop (k + 1) ∧ stB 45 s.data.toList = true := by
  have e : s.data.toList = s.data.toList.take k ++ 45 :: s.data.toList.drop (k + 1) := by
    conv => lhs; rw [← List.take_append_drop k s.data.toList]
    rw [List.drop_eq_getElem_cons (by rw [len_size]; exact hk)]
    congr 2
  obtain ⟨h1, h2⟩ := parts (y := s.data.toList.drop (k + 1)) h
  have h3 := st_mid (s.data.toList.take k) (s.data.toList.drop (k + 1))
  rw [← e] at h1 h2 h3
  exact ⟨h1, h2, h3⟩
set_option maxHeartbeats 1000000 in
theorem cut_s (s : ByteArray) (w : World) (hs : s.size ≤ 1048576) :
    Calls Tryd.prog 7 #[.string s] w fun e w' => e = .returned (.tuple #[.string (ba (fst s.data.toList)), .string (ba (snd s.data.toList)), .bool (stB 45 s.data.toList)]) ∧ Below w.heap.size w w' := by
  obtain ⟨x, hx⟩ : ∃ x, ba (fst s.data.toList) = x := ⟨_, rfl⟩
  obtain ⟨y, hy⟩ : ∃ y, ba (snd s.data.toList) = y := ⟨_, rfl⟩
  obtain ⟨z, hz⟩ : ∃ z, stB 45 s.data.toList = z := ⟨_, rfl⟩
  rw [hx, hy, hz]
  have HX := Lib.hid hx
  have HY := Lib.hid hy
  have HZ := Lib.hid hz
  clear hx hy hz
  go_enter Tryd.func7, Tryd.ntmps7
  go_wp2_with fail
  go_loopw [5] (fun i wr => ∃ k : Nat, k ≤ s.size ∧ i = .int .i64 k ∧ Hid (stB 45 (s.data.toList.take k) = false) ∧ wr = w) (fun i _ => s.size - (intOf i).toNat)
  case atStart => exact ⟨0, Nat.zero_le _, rfl, Lib.hid (by rw [List.take_zero]; rfl), rfl⟩
  case round =>
    obtain ⟨k, hk, rfl, HN, rfl⟩ := hrel
    by_cases hlt : k < s.size
    · have HS := Lib.hid (stB_take hlt)
      have hkw : IntKind.i64.wrap ((k : Int) + 1) = (k : Int) + 1 := IntWalk.i64_in _ (by omega)
      by_cases he : s[k] = 45
      · obtain ⟨e1, e2, e3⟩ := cut_at hlt HN.out he
        have H1 : Hid (ba (fst s.data.toList) = s.extract 0 k) := Lib.hid (by rw [e1, Cut.extract_take])
        rw [HX.out] at H1
        have H2 : Hid (ba (snd s.data.toList) = s.extract (k + 1) s.size) := Lib.hid (by rw [e2, Cut.extract_drop])
        rw [HY.out] at H2
        rw [HZ.out] at e3
        have HZ3 := Lib.hid e3
        have hee : ((s[k].toNat : Int) == 45) = true := by rw [he]; rfl
        clear he e1 e2 e3 HS HN
        go_wp2_with fail
        go_quiet (fail)
        go_wp2_with fail
        go_ret3
        exact ⟨by rw [H1.out, H2.out, HZ3.out]; rfl, Num.below_drewN (Below.refl _ _) _⟩
      · have hee : ((s[k].toNat : Int) == 45) = false := by
          rw [beq_eq_false_iff_ne]
          intro h
          exact he (UInt8.toNat_inj.1 (show s[k].toNat = 45 by omega))
        have HS2 : Hid (stB 45 (s.data.toList.take (k + 1)) = false) := Lib.hid (by rw [HS.out, HN.out]; simpa using he)
        clear he HS HN
        go_wp2_with fail
        go_roundw
        case rel => exact ⟨k + 1, by omega, by go_num, HS2, trivial⟩
        case measure => simp [intOf]; omega
    · have hd : decide ((k : Int) < (s.size : Int)) = false := by simp; omega
      have hall : s.data.toList.take k = s.data.toList := take_all s k (by omega)
      have hn := HN.out
      rw [hall] at hn
      obtain ⟨e1, e2⟩ := parts0 hn
      have H1 := HX.out
      rw [e1, ba_toList] at H1
      have H2 := HY.out
      rw [e2] at H2
      have H3 := HZ.out
      rw [hn] at H3
      have HA := Lib.hid (And.intro H1 (And.intro H2 H3))
      clear hall hn e1 e2 HN H1 H2 H3
      go_wp2_with fail
      go_ret3
      exact ⟨by rw [← HA.out.1, ← HA.out.2.1, ← HA.out.2.2]; rfl, Below.refl _ _⟩

/-- what l7Page answers -/
def PageIs (l : List UInt8) (e : Ending) : Prop := ∃ a n, e = .returned (.tuple #[.string a, .int .i64 n, .bool (okN l)]) ∧ (okN l = true → a = ba (letL l) ∧ n = (num (numL l)).1)
theorem num_reads (l : List UInt8) (s : ByteArray) (w : World) (hs : s.size ≤ 1048576) (hl : ba l = s) :
    Calls Tryd.prog 16 #[.string s] w fun e w' => e = .returned (.tuple #[.int .i64 (num l).1, .bool (num l).2]) ∧ Below w.heap.size w w' := by
  refine (read_any s w hs).mono ?_
  rintro e w' ⟨v, hv, rfl, q, rfl⟩
  rw [← hl] at hv
  rw [num_par hv]
  exact ⟨rfl, Num.below_drewN (Below.refl _ _) _⟩
theorem up_forms {s : ByteArray} (h : 0 < s.size) : isUp s[0] = (decide ((65 : Int) ≤ (s[0].toNat : Int)) && decide ((s[0].toNat : Int) ≤ (90 : Int))) := by
  unfold isUp
  rw [Bool.eq_iff_iff, Bool.and_eq_true, decide_eq_true_eq, decide_eq_true_eq, decide_eq_true_eq]
  omega
theorem okN_long {l : List UInt8} (h : 5 < (numL l).length) : okN l = false := by unfold okN; rw [decide_eq_false (by omega)]; rfl
theorem okN_short {l : List UInt8} (h : (numL l).length ≤ 5) : okN l = ((num (numL l)).2 && decide (0 < (num (numL l)).1)) := by unfold okN; rw [decide_eq_true h]; rfl
set_option maxHeartbeats 1000000 in
theorem page_s0 (x y : ByteArray) (l : List UInt8) (s : ByteArray) (up : Bool) (w : World) (hs : s.size ≤ 1048576) (hx : ba (letL l) = x) (hy : ba (numL l) = y)
    (hup : if up then ∃ h : 0 < s.size, isUp s[0] = true ∧ x = s.extract 0 1 ∧ y = s.extract 1 s.size else x = ⟨#[]⟩ ∧ y = s ∧ (s = ⟨#[]⟩ ∨ ∃ h : 0 < s.size, isUp s[0] = false)) :
    Calls Tryd.prog 8 #[.string s] w fun e w' => PageIs l e ∧ Below w.heap.size w w' := by
  have hyz : y.size = (numL l).length := by rw [← hy, ba_size]
  have hyl : y.size ≤ 1048576 := by
    cases up with
    | true => obtain ⟨h, _, _, rfl⟩ := hup; rw [ByteArray.size_extract]; omega
    | false => obtain ⟨_, rfl, _⟩ := hup; exact hs
  have HN := Lib.hid (fun w => num_reads (numL l) y w hyl hy)
  have HX := Lib.hid hx
  have HLo := Lib.hid (fun h => okN_long (l := l) h)
  have HSh := Lib.hid (fun h => okN_short (l := l) h)
  have HP : Hid (∀ a n o, (okN l = o) → (o = true → a = ba (letL l) ∧ n = (num (numL l)).1) → PageIs l (.returned (.tuple #[.string a, .int .i64 n, .bool o]))) := Lib.hid (fun a n o h1 h2 => ⟨a, n, by rw [h1], fun h => h2 (h1 ▸ h)⟩)
  rw [← hyz] at HLo HSh
  rw [hx] at HP
  clear hx hy hyz HX
  generalize num (numL l) = q at *
  obtain ⟨n, r⟩ := q
  dsimp only at HN HSh HP
  generalize PageIs l = PI at *
  generalize okN l = okk at *
  cases up with
  | true =>
    obtain ⟨h, hu, rfl, hye⟩ := hup
    have hne := ne_emp h
    rw [up_forms h, Bool.and_eq_true] at hu
    obtain ⟨hu1, hu2⟩ := hu
    by_cases hlong : 5 < y.size
    · have hP := HP.out ⟨#[]⟩ 0 false (HLo.out hlong) (fun h => by cases h)
      have HQ := Lib.hid hP
      have hys : y.size = s.size - 1 := by rw [hye, ByteArray.size_extract]; omega
      have hd : decide (5 < ((s.size - 1 : Nat) : Int)) = true := by simp; omega
      clear hP hye hys hlong
      go_enter Tryd.func8, Tryd.ntmps8
      go_wp2_with fail
      go_ret3
      exact ⟨HQ.out, Below.refl _ _⟩
    · have hP := HP.out (s.extract 0 1) n (r && decide (0 < n)) (HSh.out (by omega)) (fun _ => ⟨rfl, rfl⟩)
      have HQ := Lib.hid hP
      have hys : y.size = s.size - 1 := by rw [hye, ByteArray.size_extract]; omega
      have hd : decide (5 < ((s.size - 1 : Nat) : Int)) = false := by simp; omega
      rw [hye] at HN
      clear hP hye hys hlong
      go_enter Tryd.func8, Tryd.ntmps8
      go_wp2_with fail
      refine (HN.out _).mono ?_
      rintro e w1 ⟨rfl, b1⟩
      cases r
      all_goals go_wp2_with fail
      all_goals go_ret3
      all_goals exact ⟨HQ.out, b1⟩
  | false =>
    obtain ⟨rfl, rfl, hor⟩ := hup
    rcases hor with rfl | ⟨h, hu⟩
    · have hP := HP.out ⟨#[]⟩ n (r && decide (0 < n)) (HSh.out (by decide)) (fun _ => ⟨rfl, rfl⟩)
      have HQ := Lib.hid hP
      have HN' : Hid (∀ w, Calls Tryd.prog 16 #[.string ⟨#[]⟩] w fun e w' => e = .returned (.tuple #[.int .i64 n, .bool r]) ∧ Below w.heap.size w w') := HN
      clear hP HN
      go_enter Tryd.func8, Tryd.ntmps8
      go_wp2_with fail
      refine (HN'.out _).mono ?_
      rintro e w1 ⟨rfl, b1⟩
      cases r
      all_goals go_wp2_with fail
      all_goals go_ret3
      all_goals exact ⟨HQ.out, b1⟩
    · have hne := ne_emp h
      rw [up_forms h] at hu
      by_cases hlong : 5 < y.size
      · have hP := HP.out ⟨#[]⟩ 0 false (HLo.out hlong) (fun h => by cases h)
        have HQ := Lib.hid hP
        have hd : decide (5 < (y.size : Int)) = true := by simp; omega
        clear hP
        cases h65 : decide ((65 : Int) ≤ (y[0].toNat : Int)) with
        | false =>
          go_enter Tryd.func8, Tryd.ntmps8
          go_wp2_with fail
          go_ret3
          exact ⟨HQ.out, Below.refl _ _⟩
        | true =>
          rw [h65, Bool.true_and] at hu
          go_enter Tryd.func8, Tryd.ntmps8
          go_wp2_with fail
          go_ret3
          exact ⟨HQ.out, Below.refl _ _⟩
      · have hP := HP.out ⟨#[]⟩ n (r && decide (0 < n)) (HSh.out (by omega)) (fun _ => ⟨rfl, rfl⟩)
        have HQ := Lib.hid hP
        have hd : decide (5 < (y.size : Int)) = false := by simp; omega
        clear hP
        cases h65 : decide ((65 : Int) ≤ (y[0].toNat : Int)) with
        | false =>
          go_enter Tryd.func8, Tryd.ntmps8
          go_wp2_with fail
          refine (HN.out _).mono ?_
          rintro e w1 ⟨rfl, b1⟩
          cases r
          all_goals go_wp2_with fail
          all_goals go_ret3
          all_goals exact ⟨HQ.out, b1⟩
        | true =>
          rw [h65, Bool.true_and] at hu
          go_enter Tryd.func8, Tryd.ntmps8
          go_wp2_with fail
          refine (HN.out _).mono ?_
          rintro e w1 ⟨rfl, b1⟩
          cases r
          all_goals go_wp2_with fail
          all_goals go_ret3
          all_goals exact ⟨HQ.out, b1⟩
theorem page_s (l : List UInt8) (s : ByteArray) (w : World) (hs : s.size ≤ 1048576) (hl : ba l = s) :
    Calls Tryd.prog 8 #[.string s] w fun e w' => PageIs l e ∧ Below w.heap.size w w' := by
  obtain rfl : l = s.data.toList := by rw [← hl, toList_ba]
  rcases Nat.eq_zero_or_pos s.size with h | h
  · obtain rfl := emp h
    exact page_s0 ⟨#[]⟩ ⟨#[]⟩ [] ⟨#[]⟩ false w hs rfl rfl ⟨rfl, rfl, .inl rfl⟩
  · cases hu : isUp s[0] with
    | true =>
      obtain ⟨h1, h2⟩ := letL_up h hu
      exact page_s0 _ _ _ s true w hs h1 h2 ⟨h, hu, rfl, rfl⟩
    | false =>
      obtain ⟨h1, h2⟩ := letL_no h hu
      exact page_s0 ⟨#[]⟩ s _ s false w hs (by rw [h1]; rfl) (by rw [h2, ba_toList]) ⟨rfl, rfl, .inr ⟨h, hu⟩⟩
end Go.Proofs.YtiekplndcpcdkaaDoor.PgEp
