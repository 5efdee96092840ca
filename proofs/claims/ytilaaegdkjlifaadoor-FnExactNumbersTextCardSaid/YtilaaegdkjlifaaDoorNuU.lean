/-
  l13Numbers, NumbersText of the model; areNumbers, consecutiveNumbers of the program.
-/
import Derived.Test.YtilaaegdkjlifaaDoorNuT
namespace Go.Proofs.YtilaaegdkjlifaaDoor.Nu
open Go.RowKit Pl NuPl Kpz ReadPl
set_option linter.unusedSimpArgs false
set_option linter.unusedVariables false

def inB (x : Int) : Bool := decide (1 ≤ x ∧ x ≤ 999)
def goodN (L : List Int) : Bool := decide (L.length ≤ 20) && L.all inB
theorem inB_at {L : List Int} {k : Nat} {x : Int} (h : L[k]? = some x) : (L.take (k + 1)).all inB = ((L.take k).all inB && inB x) := by
  rw [List.take_add_one, h, List.all_append]; simp
theorem inB_no {L : List Int} {k : Nat} {x : Int} (h : L[k]? = some x) (h2 : inB x = false) : L.all inB = false := by
  rw [List.all_eq_false]
  exact ⟨x, List.mem_of_getElem? h, by simp [h2]⟩
theorem goodN_yes {L : List Int} (h : goodN L = true) : (∀ x ∈ L, 1 ≤ x ∧ x ≤ 999) ∧ L.length ≤ 20 := by
  unfold goodN at h
  simp only [Bool.and_eq_true, decide_eq_true_eq] at h
  exact ⟨fun x hx => of_decide_eq_true (List.all_eq_true.1 h.2 x hx), h.1⟩
theorem goodN_of {L : List Int} (h : ∀ x ∈ L, 1 ≤ x ∧ x ≤ 999) (h2 : L.length ≤ 20) : goodN L = true := by
  unfold goodN
  rw [decide_eq_true h2, Bool.true_and]
  exact List.all_eq_true.2 (fun x hx => decide_eq_true (h x hx))
set_option maxHeartbeats 2000000 in
theorem numbers_s (A : Option Addr) (c n : Nat) (L : List Int) (r : Bool) (w : World) (hr : RdI w A L) (hn : L.length = n) (hm : n ≤ 2097152) (h : goodN L = r) :
    Calls Tryd.prog 13 #[.slice A n c] w fun e w' => e = .returned (.bool r) ∧ w = w' := by
  have HR := Lib.hid hr
  have HN := Lib.hid hn
  have HV := Lib.hid h
  clear hr hn h
  go_enter Tryd.func13, Tryd.ntmps13
  go_wp2_with fail
  go_loop [3] (fun i => ∃ k : Nat, k ≤ n ∧ i = .int .i64 k ∧ Hid ((L.take k).all inB = true)) (fun i => n - (intOf i).toNat)
  case atStart => exact ⟨0, Nat.zero_le _, rfl, Lib.hid rfl⟩
  case round =>
    obtain ⟨k, hk, rfl, HO⟩ := hrel
    by_cases hlt : k < n
    · obtain ⟨x, hx⟩ : ∃ x, L[k]? = some x := ⟨_, List.getElem?_eq_getElem (by rw [HN.out]; exact hlt)⟩
      obtain ⟨g, o, rfl, hc0⟩ := HR.out k x hx
      have HO1 := Lib.hid (inB_at hx)
      have HNo := Lib.hid (fun h => inB_no hx h)
      clear hx
      cases hok : inB x with
      | false =>
        have HP := Lib.hid (Dt.l1In_any x 1 999 false w hok)
        have HE2 : Hid (r = false) := Lib.hid (by rw [← HV.out]; unfold goodN; rw [HNo.out hok, Bool.and_false])
        clear hok
        go_wp2_with fail
        refine HP.out.mono ?_
        rintro e w' ⟨rfl, rfl⟩
        go_wp2_with fail
        go_ret
        exact ⟨by rw [HE2.out]; rfl, rfl⟩
      | true =>
        have HP := Lib.hid (Dt.l1In_any x 1 999 true w hok)
        have HO2 : Hid ((L.take (k + 1)).all inB = true) := Lib.hid (by rw [HO1.out, HO.out, Bool.true_and]; exact hok)
        clear hok
        go_wp2_with fail
        refine HP.out.mono ?_
        rintro e w' ⟨rfl, rfl⟩
        go_wp2_with fail
        go_round
        case rel => exact ⟨k + 1, by omega, by go_num, HO2⟩
        case measure => simp [intOf]; omega
    · have HA : Hid (L.all inB = true) := Lib.hid (by have := HO.out; rw [List.take_of_length_le (by rw [HN.out]; omega)] at this; exact this)
      have HE2 : Hid (r = decide (n ≤ 20)) := Lib.hid (by rw [← HV.out]; unfold goodN; rw [HA.out, Bool.and_true, HN.out])
      by_cases hnm : n ≤ 20
      · have hg : decide ((n : Int) ≤ 20) = true := by simp; omega
        have HE4 : Hid (r = true) := Lib.hid (by rw [HE2.out]; exact decide_eq_true hnm)
        go_wp2_with fail
        go_ret
        exact ⟨by rw [HE4.out]; rfl, rfl⟩
      · have hg : decide ((n : Int) ≤ 20) = false := by simp; omega
        have HE4 : Hid (r = false) := Lib.hid (by rw [HE2.out]; exact decide_eq_false hnm)
        go_wp2_with fail
        go_ret
        exact ⟨by rw [HE4.out]; rfl, rfl⟩
set_option maxHeartbeats 2000000 in
theorem areNumbers_i (A : Option Addr) (c n : Nat) (L : List Int) (r : Bool) (w : World) (hr : RdI w A L) (hn : L.length = n) (hm : n ≤ 2097152) (h : goodN L = r) :
    Calls Tryd.prog 16 #[.slice A n c] w fun e w' => e = .returned (.bool r) ∧ w = w' := by
  have HR := Lib.hid hr
  have HN := Lib.hid hn
  have HV := Lib.hid h
  clear hr hn h
  by_cases hbig : 20 < n
  · have HE : Hid (r = false) := Lib.hid (by rw [← HV.out]; unfold goodN; rw [HN.out, decide_eq_false (by omega)]; rfl)
    have hg : decide ((20 : Int) < (n : Int)) = true := by simp; omega
    go_enter Tryd.func16, Tryd.ntmps16
    go_wp2_with fail
    go_ret
    exact ⟨by rw [HE.out]; rfl, rfl⟩
  · have HE : Hid (r = L.all inB) := Lib.hid (by rw [← HV.out]; unfold goodN; rw [HN.out, decide_eq_true (by omega)]; rfl)
    have hg : decide ((20 : Int) < (n : Int)) = false := by simp; omega
    clear HV
    go_enter Tryd.func16, Tryd.ntmps16
    go_wp2_with fail
    go_loop [10] (fun i => ∃ k : Nat, k ≤ n ∧ i = .int .i64 k ∧ Hid ((L.take k).all inB = true)) (fun i => n - (intOf i).toNat)
    case atStart => exact ⟨0, Nat.zero_le _, rfl, Lib.hid rfl⟩
    case round =>
      obtain ⟨k, hk, rfl, HO⟩ := hrel
      by_cases hlt : k < n
      · obtain ⟨x, hx⟩ : ∃ x, L[k]? = some x := ⟨_, List.getElem?_eq_getElem (by rw [HN.out]; exact hlt)⟩
        obtain ⟨g, o, rfl, hc0⟩ := HR.out k x hx
        have HO1 := Lib.hid (inB_at hx)
        have HNo := Lib.hid (fun h => inB_no hx h)
        clear hx
        by_cases hx1 : x < 1
        · have hd1 : decide (x < 1) = true := decide_eq_true hx1
          have HE2 : Hid (r = false) := Lib.hid (by rw [HE.out]; exact HNo.out (by unfold inB; exact decide_eq_false (by omega)))
          go_wp2_with fail
          go_ret
          exact ⟨by rw [HE2.out]; rfl, rfl⟩
        · have hd1 : decide (x < 1) = false := decide_eq_false hx1
          by_cases hx2 : 999 < x
          · have hd2 : decide (999 < x) = true := decide_eq_true hx2
            have HE2 : Hid (r = false) := Lib.hid (by rw [HE.out]; exact HNo.out (by unfold inB; exact decide_eq_false (by omega)))
            go_wp2_with fail
            go_ret
            exact ⟨by rw [HE2.out]; rfl, rfl⟩
          · have hd2 : decide (999 < x) = false := decide_eq_false hx2
            have HO2 : Hid ((L.take (k + 1)).all inB = true) := Lib.hid (by rw [HO1.out, HO.out, Bool.true_and]; unfold inB; exact decide_eq_true (by omega))
            go_wp2_with fail
            go_round
            case rel => exact ⟨k + 1, by omega, by go_num, HO2⟩
            case measure => simp [intOf]; omega
      · have HE2 : Hid (r = true) := Lib.hid (by rw [HE.out]; have := HO.out; rw [List.take_of_length_le (by rw [HN.out]; omega)] at this; exact this)
        go_wp2_with fail
        go_ret
        exact ⟨by rw [HE2.out]; rfl, rfl⟩
/-- what NumbersText answers -/
def ntS (L : List Int) : ByteArray := if goodN L then ba (txt (srt L)) else ⟨#[]⟩
theorem ntS_no {L : List Int} (h : goodN L = false) : ntS L = ⟨#[]⟩ := by unfold ntS; rw [h]; rfl
theorem ntS_yes {L : List Int} (h : goodN L = true) : ntS L = ba (txt (srt L)) := by unfold ntS; rw [h]; rfl
theorem heap_new0 (w : World) (e : TypeId) : Rd1 (w.alloc (.cells #[] e)) w.heap.size [] := ⟨by simp, fun j x h => by simp at h⟩
set_option maxHeartbeats 4000000 in
theorem ntext_s (A : Option Addr) (c n : Nat) (L : List Int) (w : World) (hr : RdI w A L) (hn : L.length = n) (hm : n ≤ 1048576) :
    Calls Tryd.prog 5 #[.slice A n c] w fun e w' => e = .returned (.tuple #[.string (ntS L), .bool (goodN L)]) ∧ Kp w w' := by
  have HR := Lib.hid hr
  have HN := Lib.hid hn
  have HG := Lib.hid (fun r h => numbers_s A c n L r w hr hn (by omega) h)
  clear hr hn
  cases hok : goodN L with
  | false =>
    have HG1 := Lib.hid (HG.out false hok)
    have HE := Lib.hid (ntS_no hok)
    clear hok HG
    go_enter Tryd.func5, Tryd.ntmps5
    go_wp2_with fail
    refine HG1.out.mono ?_
    rintro e w' ⟨rfl, rfl⟩
    go_wp2_with fail
    go_ret2
    exact ⟨by rw [HE.out]; rfl, kre _⟩
  | true =>
    have HG1 := Lib.hid (HG.out true hok)
    have HE := Lib.hid (ntS_yes hok)
    have HY := Lib.hid (goodN_yes hok)
    have hn20 : n ≤ 20 := by rw [← HN.out]; exact HY.out.2
    have HB0 := Lib.hid (kal (kre w) (.cells #[] 3))
    have HR0 := Lib.hid (heap_new0 w 3)
    clear hok HG
    go_enter Tryd.func5, Tryd.ntmps5
    go_wp2_with fail
    refine HG1.out.mono ?_
    rintro e w' ⟨rfl, rfl⟩
    go_wp2_with fail
    go_loopw [4, 5] (fun v i wr => ∃ k : Nat, k ≤ n ∧ i = .int .i64 k ∧ (∃ (g' m c' : Nat), v = .slice (some ⟨g', 0, none⟩) m c' ∧ Hid ((srt (L.take k)).length = m) ∧ Hid (Rd1 wr g' (srt (L.take k))) ∧ m ≤ c') ∧ Kp w wr) (fun _ i _ => n - (intOf i).toNat)
    case atStart => exact ⟨0, Nat.zero_le _, rfl, ⟨w.heap.size, 0, 0, rfl, Lib.hid rfl, HR0, Nat.le_refl _⟩, HB0.out⟩
    case round =>
      obtain ⟨k, hk, rfl, ⟨g', m, c', rfl, HM, HRd, hmc⟩, hb⟩ := hrel
      by_cases hlt : k < n
      · obtain ⟨x, hx⟩ : ∃ x, L[k]? = some x := ⟨_, List.getElem?_eq_getElem (by rw [HN.out]; exact hlt)⟩
        obtain ⟨g, o, rfl, c0⟩ := (HR.out.kp hb) k x hx
        have HS := Lib.hid (srt_at hx)
        have hml : m ≤ 20 := by
          have := srt_len (L.take k)
          rw [HM.out, List.length_take] at this
          omega
        have HA := Lib.hid (add_s g' c' m (srt (L.take k)) x wr HRd.out HM.out (by omega) hmc)
        rw [← HS.out] at HA
        clear hx HS HRd
        go_wp2_with fail
        refine HA.out.mono ?_
        rintro e w1 ⟨g1, c1, rfl, r1, l1, b1⟩
        have HR1 := Lib.hid r1
        have HB1 := Lib.hid (ktr hb b1)
        clear r1 b1 HA
        go_wp2_with fail
        go_roundw
        case rel => exact ⟨k + 1, by omega, by go_num, ⟨g1, _, c1, rfl, Lib.hid rfl, HR1, l1⟩, HB1.out⟩
        case measure => (simp [intOf] <;> omega)
      · have HT : Hid (L.take k = L) := Lib.hid (by rw [List.take_of_length_le (by rw [HN.out]; omega)])
        rw [HT.out] at HM HRd
        have hgd := gd_srt HY.out.1 HY.out.2
        have HX := Lib.hid (text_s (some ⟨g', 0, none⟩) c' m (srt L) wr (rd1_rdi HRd.out) HM.out (by have := srt_len L; have := HM.out; have := HY.out.2; omega) hgd.2.1)
        clear hgd HRd
        go_wp2_with fail
        refine HX.out.mono ?_
        rintro e w1 ⟨rfl, b1⟩
        go_wp2_with fail
        go_ret2
        exact ⟨by rw [HE.out]; rfl, ktr hb b1⟩
set_option maxHeartbeats 4000000 in
/-- how many numbers at the beginning are consecutive -/
theorem consec_i (A : Option Addr) (c n : Nat) (a : Int) (r : List Int) (w : World) (hr : RdI w A (a :: r)) (hn : (a :: r).length = n) (hm : n ≤ 20) (hv : ∀ x ∈ a :: r, 1 ≤ x ∧ x ≤ 999) :
    Calls Tryd.prog 26 #[.slice A n c] w fun e w' => e = .returned (.int .i64 ((run1 a r + 1 : Nat) : Int)) ∧ Kp w w' := by
  have H := Lib.hid hr
  have HN := Lib.hid hn
  have HR := Lib.hid hv
  have HAt := Lib.hid (run_at (L := a :: r) (k := 0) (a := a) rfl)
  have HEnd := Lib.hid (run_end (L := a :: r) (k := 0) (a := a) rfl)
  have hle := run_le (L := a :: r) (k := 0) (a := a) rfl
  simp only [Nat.zero_add, List.drop_succ_cons, List.drop_zero] at HAt HEnd hle
  rw [hn] at hle
  have hn1 : 1 ≤ n := by rw [← hn]; simp
  clear hr hn hv
  generalize run1 a r = m at *
  generalize a :: r = L at *
  go_enter Tryd.func26, Tryd.ntmps26
  go_wp2_with fail
  go_loopw [3] (fun j wr => ∃ q : Nat, 1 ≤ q ∧ q ≤ m + 1 ∧ j = .int .i64 q ∧ Kp w wr) (fun j _ => n - (intOf j).toNat)
  case atStart => exact ⟨1, Nat.le_refl _, by omega, rfl, kre _⟩
  case round =>
    obtain ⟨q, hq1, hq2, rfl, hb⟩ := hrel
    obtain ⟨p, hp⟩ : ∃ p, q - 1 = p := ⟨_, rfl⟩
    have hx := HAt.out p (by omega)
    obtain ⟨x, hxe⟩ : ∃ x, a + (p : Int) = x := ⟨_, rfl⟩
    rw [hxe] at hx
    obtain ⟨hx1, hx2⟩ := HR.out x (List.mem_of_getElem? hx)
    obtain ⟨g, o, rfl, cp⟩ := (H.out.kp hb) p x hx
    have hw1 : IntKind.i64.wrap (x + 1) = x + 1 := IntWalk.i64_in _ (by omega)
    have hw2 : IntKind.i64.wrap ((q : Int) - 1) = (p : Int) := by rw [IntWalk.i64_in _ (by omega)]; omega
    have HQ : Hid (q = p + 1) := Lib.hid (by omega)
    have hpn : p < n := by omega
    by_cases hend : q = m + 1
    · have HEq := Lib.hid hend
      have hcond : (decide ((q : Int) < (n : Int)) = false ∧ ¬ (q < n)) ∨ (decide ((q : Int) < (n : Int)) = true ∧ q < n ∧ ∃ y : Int, wr.cell? ⟨g, o + q, none⟩ = some (.int .i64 y) ∧ (y == x + 1) = false) := by
        by_cases hqn : q < n
        · right
          obtain ⟨y, hy⟩ : ∃ y, L[q]? = some y := ⟨_, List.getElem?_eq_getElem (by rw [HN.out]; exact hqn)⟩
          have cy := ((H.out.kp hb) q y hy).elim fun g' h' => by obtain ⟨o', e', hc'⟩ := h'; cases e'; exact hc'
          refine ⟨by simp; omega, hqn, y, cy, ?_⟩
          rw [beq_eq_false_iff_ne]
          intro e
          refine HEnd.out ?_
          rw [← HEq.out, hy, e]
          congr 1
          have := HQ.out
          omega
        · exact .inl ⟨by simp; omega, hqn⟩
      clear hx hxe hend hp hq2
      rcases hcond with ⟨hg1, hqn⟩ | ⟨hg1, hqn, y, cq', hy⟩
      all_goals
        go_wp2_with fail
        go_quiet (fail)
        go_wp2_with fail
        go_ret
        exact ⟨by rw [← HEq.out]; rfl, kdn hb _⟩
    · have hq' := HAt.out q (by omega)
      rw [show a + (q : Int) = x + 1 by have := HQ.out; omega] at hq'
      have cq' := ((H.out.kp hb) q (x + 1) hq').elim fun g' h' => by obtain ⟨o', e', hc'⟩ := h'; cases e'; exact hc'
      have hqn : q < n := by omega
      have hg1 : decide ((q : Int) < (n : Int)) = true := by simp; omega
      clear hx hxe hq' hp
      go_wp2_with fail
      go_quiet (fail)
      go_wp2_with fail
      go_roundw
      case rel => exact ⟨q + 1, by omega, by omega, by go_num, kdn hb _⟩
      case measure => (simp [intOf] <;> omega)
end Go.Proofs.YtilaaegdkjlifaaDoor.Nu
