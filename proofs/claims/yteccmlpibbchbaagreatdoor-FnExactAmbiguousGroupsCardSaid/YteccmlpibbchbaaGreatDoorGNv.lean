/-
  Several texts of one claim in one file: OkS, NmV, NmL.
-/
import Derived.Test.YteccmlpibbchbaaGreatDoorGood
import Derived.Test.YteccmlpibbchbaaGreatDoorNm
/-
  A valid name is small.
-/
namespace Go.Proofs.YteccmlpibbchbaaGreatDoor.Cmp
open Go.RowKit Pl Strs Help Name Stands SplitPl NmPl Word Part NGood

theorem lens_le {xs : List ByteArray} (h : ∀ x ∈ ls xs, x.length ≤ 12) : lens xs ≤ 12 * xs.length := by
  induction xs with
  | nil => simp [lens]
  | cons x r ih =>
    have h1 := ih (fun y hy => h y (by unfold ls at *; exact List.mem_cons_of_mem _ hy))
    have h2 := h x.data.toList (by unfold ls; exact List.mem_cons_self ..)
    rw [len_size] at h2
    simp only [lens, List.map_cons, List.sum_cons, List.length_cons] at *
    omega
theorem low_len {l : List UInt8} (h : lowB l = true) : l.length ≤ 12 := by
  unfold lowB at h
  simp only [Bool.and_eq_true, decide_eq_true_eq] at h
  exact h.1.2
theorem part_len {p : List UInt8} (h : (p.isEmpty || partB p) = true) : p.length ≤ 25 := by
  rw [Bool.or_eq_true] at h
  rcases h with h | h
  · rw [List.isEmpty_iff] at h; subst h; simp
  · unfold partB at h
    simp only [Bool.and_eq_true, decide_eq_true_eq] at h
    obtain ⟨ha, hl⟩ := h
    have e := join_split 32 p
    generalize split 32 p = D at *
    match D, hl with
    | [], _ => rw [← e]; simp [Lib.join]
    | [a], _ =>
      have := low_len (List.all_eq_true.1 ha a (by simp))
      rw [← e]; simp [Lib.join]; omega
    | [a, b], _ =>
      have h1 := low_len (List.all_eq_true.1 ha a (by simp))
      have h2 := low_len (List.all_eq_true.1 ha b (by simp))
      rw [← e]; simp [Lib.join]; omega
/-- a valid name is small -/
theorem ok_small {xs : List ByteArray} {p f s : ByteArray} (h : okN xs p f s = true) : xs.length + lens xs + p.size + f.size + s.size ≤ 1000 := by
  have hg : goodB (ls xs) p.data.toList f.data.toList s.data.toList = true := h
  unfold goodB at hg
  simp only [Bool.and_eq_true, decide_eq_true_eq] at hg
  obtain ⟨⟨⟨⟨h1, h2⟩, h3⟩, h4⟩, h5⟩ := hg
  have e1 := lens_le (xs := xs) (fun x hx => word_len (cap_word (List.all_eq_true.1 h1 x hx)))
  have e2 := part_len h3
  have e3 := word_len (cap_word h4)
  have e4 : s.data.toList.length ≤ 12 := by
    rw [Bool.or_eq_true] at h5
    rcases h5 with h5 | h5
    · rw [List.isEmpty_iff] at h5; rw [h5]; simp
    · exact word_len h5
  rw [ls_len] at h2
  rw [len_size] at e2 e3 e4
  omega
end Go.Proofs.YteccmlpibbchbaaGreatDoor.Cmp
/-
  Contract of impl.areValidNames.
-/
namespace Go.Proofs.YteccmlpibbchbaaGreatDoor.Nms
open Go.RowKit Pl Strs Help Name Stands SplitPl NmPl Word Part NGood

set_option maxHeartbeats 2000000 in
theorem areValid (A : Option Addr) (c N : Nat) (L : List Nm) (w : World) (h : RdNs w A L) (hn : L.length = N) (hN : N ≤ 1048576) :
    Calls Tryz.prog 95 #[.slice A N c] w fun e w' => e = .returned (.bool (L.all Nm.ok)) ∧ Below w.heap.size w w' := by
  have H := Lib.hid h
  have HN := Lib.hid hn
  clear h hn
  go_enter Tryz.func95, Tryz.ntmps95
  go_wp2_with fail
  go_loopw [7] (fun i wr => ∃ k : Nat, k ≤ N ∧ i = .int .i64 k ∧ Hid ((L.drop k).all Nm.ok = L.all Nm.ok) ∧ Below w.heap.size w wr) (fun i _ => N - (intOf i).toNat)
  case atStart => exact ⟨0, Nat.zero_le _, rfl, Lib.hid rfl, Below.refl _ _⟩
  case round =>
    obtain ⟨k, hk, rfl, HD, hb⟩ := hrel
    by_cases hlt : k < N
    · have hkx : k < L.length := by rw [HN.out]; exact hlt
      have hx? := List.getElem?_eq_getElem hkx
      obtain ⟨hin, g, o, rfl, hg, h0, h1, h2, h3⟩ := (H.out.below hb) k L[k] hx?
      have HO := Lib.hid (oks_drop hx?)
      clear hx?
      generalize L[k] = x at *
      obtain ⟨A1, n1, c1, xs, p, f, s⟩ := x
      dsimp only at h0 h1 h2 h3
      have hin1 := hin.1
      have hin2 := hin.2.1
      have hin3 := hin.2.2
      dsimp only at hin1 hin2 hin3
      have b5 := (Below.refl _ wr).alloc (Nat.le_refl _) (.cells #[.slice A1 n1 c1, .string p, .string f, .string s] 111)
      have HR5 := Lib.hid (hin1.below b5)
      have HB5 := Lib.hid b5
      clear hin hin1 b5
      cases hok : okN xs p f s with
      | false =>
        have HOK := Lib.hid hok
        clear hok
        have HF : Hid (L.all Nm.ok = false) := Lib.hid (by rw [← HD.out, HO.out]; unfold Nm.ok; rw [HOK.out]; rfl)
        go_wp2_with fail
        refine (isValid_b A1 c1 n1 xs p f s false _ HR5.out.1 HR5.out.2.1 HR5.out.2.2 hin2 hin3 HOK.out).mono ?_
        rintro e w6 ⟨rfl, b6⟩
        go_wp2_with fail
        go_ret
        exact ⟨by rw [HF.out]; rfl, hb.trans ((HB5.out.trans (b6.mono HB5.out.size)).mono hb.size)⟩
      | true =>
        have HOK := Lib.hid hok
        clear hok
        go_wp2_with fail
        refine (isValid_b A1 c1 n1 xs p f s true _ HR5.out.1 HR5.out.2.1 HR5.out.2.2 hin2 hin3 HOK.out).mono ?_
        rintro e w6 ⟨rfl, b6⟩
        go_wp2_with fail
        go_roundw
        case rel => exact ⟨k + 1, by omega, by go_num, Lib.hid (by rw [← HD.out, HO.out]; unfold Nm.ok; rw [HOK.out]; rfl), hb.trans ((HB5.out.trans (b6.mono HB5.out.size)).mono hb.size)⟩
        case measure => simp [intOf]; omega
    · have HX : Hid (L.all Nm.ok = true) := Lib.hid (by rw [← HD.out, List.drop_eq_nil_of_le (by rw [HN.out]; omega)]; rfl)
      go_wp2_with fail
      go_ret
      exact ⟨by rw [HX.out]; rfl, hb⟩

theorem okN_ne {xs : List ByteArray} {p f s : ByteArray} (h : okN xs p f s = true) : ∀ x ∈ ls xs, x ≠ [] := by
  rw [okN_eq] at h
  simp only [Bool.and_eq_true] at h
  exact fun x hx => cap_ne (List.all_eq_true.1 h.1.1.1.1 x hx)

/-- a literal of two names -/
theorem rdns_two {w : World} {x y : Nm} (hx : x.In w) (hy : y.In w) (t : TypeId) : RdNs (w.alloc (.cells #[.slice x.A x.n x.c, .string x.p, .string x.f, .string x.s, .slice y.A y.n y.c, .string y.p, .string y.f, .string y.s] t)) (some ⟨w.heap.size, 0, none⟩) [x, y] := by
  have hb := (Below.refl _ w).alloc (Nat.le_refl _) (.cells #[.slice x.A x.n x.c, .string x.p, .string x.f, .string x.s, .slice y.A y.n y.c, .string y.p, .string y.f, .string y.s] t)
  intro j z hz
  match j, hz with
  | 0, hz =>
    cases hz
    exact ⟨hx.below hb, w.heap.size, 0, rfl, by simp, by simp, by simp, by simp, by simp⟩
  | 1, hz =>
    cases hz
    exact ⟨hy.below hb, w.heap.size, 0, rfl, by simp, by simp, by simp, by simp, by simp⟩
  | j + 2, hz => simp at hz

end Go.Proofs.YteccmlpibbchbaaGreatDoor.Nms
/-
  Contracts of isNameList and l2List.
-/
namespace Go.Proofs.YteccmlpibbchbaaGreatDoor.Jn
open Go.RowKit Pl Strs Help Name Stands SplitPl NmPl Word Part NGood Nms
open Cmp (ok_small)
set_option linter.unusedSimpArgs false
set_option linter.unusedVariables false

theorem ret_bool' {a b : Bool} (h : a = b) : Ending.returned (.bool a) = .returned (.bool b) := by rw [h]
/-- is the list of names valid -/
def okL (L : List Nm) : Bool := decide (L.length ≤ 4) && L.all Nm.ok
theorem okL_yes {L : List Nm} (h : okL L = true) : L.length ≤ 4 ∧ ∀ x ∈ L, x.ok = true := by
  unfold okL at h
  rw [Bool.and_eq_true, decide_eq_true_eq] at h
  exact ⟨h.1, List.all_eq_true.1 h.2⟩

set_option maxHeartbeats 1000000 in
theorem isList (A : Option Addr) (c N : Nat) (L : List Nm) (w : World) (h : RdNs w A L) (hn : L.length = N) (hN : N ≤ 1048576) :
    Calls Tryz.prog 74 #[.slice A N c] w fun e w' => e = .returned (.bool (okL L)) ∧ Below w.heap.size w w' := by
  have HV := Lib.hid (areValid A c N L w h hn hN)
  have HE : Hid (okL L = (decide (N ≤ 4) && L.all Nm.ok)) := Lib.hid (by unfold okL; rw [hn])
  clear h hn
  generalize L.all Nm.ok = r at *
  generalize okL L = z at *
  by_cases h4 : N ≤ 4
  · rw [decide_eq_true h4, Bool.true_and] at HE
    go_enter Tryz.func74, Tryz.ntmps74
    go_wp2_with fail
    refine HV.out.mono ?_
    rintro e w1 ⟨rfl, b1⟩
    go_wp2_with fail
    go_ret
    exact ⟨by rw [HE.out]; rfl, b1⟩
  · rw [decide_eq_false h4, Bool.false_and] at HE
    go_enter Tryz.func74, Tryz.ntmps74
    go_wp2_with fail
    go_ret
    exact ⟨by rw [HE.out]; rfl, Below.refl _ _⟩

set_option maxHeartbeats 2000000 in
theorem l2List (A : Option Addr) (c N : Nat) (L : List Nm) (w : World) (h : RdN0 w A L) (hn : L.length = N) (hN : N ≤ 1048576) (hz : ∀ x ∈ L, x.sz ≤ 1048576) :
    Calls Tryz.prog 64 #[.slice A N c] w fun e w' => e = .returned (.bool (okL L)) ∧ Below w.heap.size w w' := by
  have H := Lib.hid h
  have HN := Lib.hid hn
  have HZ := Lib.hid hz
  have HE : Hid (okL L = (decide (N ≤ 4) && L.all Nm.ok)) := Lib.hid (by unfold okL; rw [hn])
  clear h hn hz
  go_enter Tryz.func64, Tryz.ntmps64
  go_wp2_with fail
  go_loopw [3] (fun i wr => ∃ k : Nat, k ≤ N ∧ k ≤ 5 ∧ i = .int .i64 k ∧ Hid ((L.drop k).all Nm.ok = L.all Nm.ok) ∧ Below w.heap.size w wr) (fun i _ => N - (intOf i).toNat)
  case atStart => exact ⟨0, Nat.zero_le _, by omega, rfl, Lib.hid rfl, Below.refl _ _⟩
  case round =>
    obtain ⟨k, hk, hk5, rfl, HD, hb⟩ := hrel
    by_cases hlt : k < N
    · by_cases h4 : k ≤ 4
      · have hkx : k < L.length := by rw [HN.out]; exact hlt
        have hx? := List.getElem?_eq_getElem hkx
        obtain ⟨hr, g, o, rfl, hg, h0, h1, h2, h3⟩ := (H.out.below hb) k L[k] hx?
        have HO := Lib.hid (oks_drop hx?)
        have hs := HZ.out _ (List.getElem_mem hkx)
        clear hx?
        generalize L[k] = x at *
        obtain ⟨A1, n1, c1, xs, p, f, s⟩ := x
        dsimp only at hr h0 h1 h2 h3
        have hs' : xs.length + lens xs + p.size + f.size + s.size ≤ 1048576 := hs
        have HX : Hid (∀ y ∈ xs, y.size ≤ 1048576) := Lib.hid (fun y hy => by have := mem_lens hy; omega)
        have hn1 := hr.2.2
        have HR := Lib.hid hr
        clear hr hs
        cases hok : okN xs p f s with
        | false =>
          have HOK := Lib.hid hok
          clear hok
          have HF : Hid (okL L = false) := Lib.hid (by rw [HE.out, ← HD.out, HO.out]; unfold Nm.ok; rw [HOK.out]; simp)
          go_wp2_with fail
          refine (l2Good_b A1 c1 n1 xs p f s false _ HR.out.1 HR.out.2.1 HR.out.2.2 (by omega) HX.out (by omega) (by omega) (by omega) HOK.out).mono ?_
          rintro e w6 ⟨rfl, b6⟩
          go_wp2_with fail
          go_ret
          exact ⟨by rw [HF.out]; rfl, hb.trans (b6.mono hb.size)⟩
        | true =>
          have HOK := Lib.hid hok
          clear hok
          go_wp2_with fail
          refine (l2Good_b A1 c1 n1 xs p f s true _ HR.out.1 HR.out.2.1 HR.out.2.2 (by omega) HX.out (by omega) (by omega) (by omega) HOK.out).mono ?_
          rintro e w6 ⟨rfl, b6⟩
          go_wp2_with fail
          go_roundw
          case rel => exact ⟨k + 1, by omega, by omega, by go_num, Lib.hid (by rw [← HD.out, HO.out]; unfold Nm.ok; rw [HOK.out]; rfl), hb.trans (b6.mono hb.size)⟩
          case measure => simp [intOf]; omega
      · have HF : Hid (okL L = decide (N ≤ 4)) := Lib.hid (by rw [HE.out, decide_eq_false (by omega)]; rfl)
        go_wp2_with fail
        go_ret
        exact ⟨by rw [HF.out]; exact ret_bool' (by rw [Bool.eq_iff_iff]; simp; omega), hb⟩
    · have HF : Hid (okL L = decide (N ≤ 4)) := Lib.hid (by rw [HE.out, ← HD.out, List.drop_eq_nil_of_le (by rw [HN.out]; omega)]; simp)
      go_wp2_with fail
      go_ret
      exact ⟨by rw [HF.out]; exact ret_bool' (by rw [Bool.eq_iff_iff]; simp; omega), hb⟩

end Go.Proofs.YteccmlpibbchbaaGreatDoor.Jn
