/-
  Contract of impl.areValidNames.
-/
import Derived.Test.YtkiogbbbigmgnaaNm
namespace Go.Proofs.Ytkiogbbbigmgnaa.Nms
open Go.RowKit Pl Strs Help Name Stands SplitPl NmPl Word Part NGood

set_option maxHeartbeats 2000000 in
theorem areValid (A : Option Addr) (c N : Nat) (L : List Nm) (w : World) (h : RdNs w A L) (hn : L.length = N) (hN : N ≤ 1048576) :
    Calls Try.prog 68 #[.slice A N c] w fun e w' => e = .returned (.bool (L.all Nm.ok)) ∧ Below w.heap.size w w' := by
  have H := Lib.hid h
  have HN := Lib.hid hn
  clear h hn
  go_enter Try.func68, Try.ntmps68
  go_wp2_with fail
  go_loopw [7] (fun i wr => ∃ k : Nat, k ≤ N ∧ i = .int .i64 k ∧ Hid ((L.drop k).all Nm.ok = L.all Nm.ok) ∧ Below w.heap.size w wr) (fun i _ => N - (intOf i).toNat)
  case atStart => exact ⟨0, Nat.zero_le _, rfl, Lib.hid rfl, Below.refl _ _⟩
  case round =>
    obtain ⟨k, hk, rfl, HD, hb⟩ := hrel
    by_cases hlt : k < N
    · have hkx : k < L.length := by rw [HN.out]; exact hlt
      have hx? := List.getElem?_eq_getElem hkx
      obtain ⟨hin, g, o, rfl, hg, h0, h1, h2, h3⟩ := (H.out.below hb) k L[k] hx?
      have HO := Lib.hid (oks_drop hx?)
      clear hx?
      generalize L[k] = x at *
      obtain ⟨A1, n1, c1, xs, p, f, s⟩ := x
      dsimp only at h0 h1 h2 h3
      have hin1 := hin.1
      have hin2 := hin.2.1
      have hin3 := hin.2.2
      dsimp only at hin1 hin2 hin3
      have b5 := (Below.refl _ wr).alloc (Nat.le_refl _) (.cells #[.slice A1 n1 c1, .string p, .string f, .string s] 91)
      have HR5 := Lib.hid (hin1.below b5)
      have HB5 := Lib.hid b5
      clear hin hin1 b5
      cases hok : okN xs p f s with
      | false =>
        have HOK := Lib.hid hok
        clear hok
        have HF : Hid (L.all Nm.ok = false) := Lib.hid (by rw [← HD.out, HO.out]; unfold Nm.ok; rw [HOK.out]; rfl)
        go_wp2_with fail
        refine (isValid_b A1 c1 n1 xs p f s false _ HR5.out.1 HR5.out.2.1 HR5.out.2.2 hin2 hin3 HOK.out).mono ?_
        rintro e w6 ⟨rfl, b6⟩
        go_wp2_with fail
        go_ret
        exact ⟨by rw [HF.out]; rfl, hb.trans ((HB5.out.trans (b6.mono HB5.out.size)).mono hb.size)⟩
      | true =>
        have HOK := Lib.hid hok
        clear hok
        go_wp2_with fail
        refine (isValid_b A1 c1 n1 xs p f s true _ HR5.out.1 HR5.out.2.1 HR5.out.2.2 hin2 hin3 HOK.out).mono ?_
        rintro e w6 ⟨rfl, b6⟩
        go_wp2_with fail
        go_roundw
        case rel => exact ⟨k + 1, by omega, by go_num, Lib.hid (by rw [← HD.out, HO.out]; unfold Nm.ok; rw [HOK.out]; rfl), hb.trans ((HB5.out.trans (b6.mono HB5.out.size)).mono hb.size)⟩
        case measure => simp [intOf]; omega
    · have HX : Hid (L.all Nm.ok = true) := Lib.hid (by rw [← HD.out, List.drop_eq_nil_of_le (by rw [HN.out]; omega)]; rfl)
      go_wp2_with fail
      go_ret
      exact ⟨by rw [HX.out]; rfl, hb⟩

theorem okN_ne {xs : List ByteArray} {p f s : ByteArray} (h : okN xs p f s = true) : ∀ x ∈ ls xs, x ≠ [] := by
  rw [okN_eq] at h
  simp only [Bool.and_eq_true] at h
  exact fun x hx => cap_ne (List.all_eq_true.1 h.1.1.1.1 x hx)

/-- a literal of two names -/
theorem rdns_two {w : World} {x y : Nm} (hx : x.In w) (hy : y.In w) (t : TypeId) : RdNs (w.alloc (.cells #[.slice x.A x.n x.c, .string x.p, .string x.f, .string x.s, .slice y.A y.n y.c, .string y.p, .string y.f, .string y.s] t)) (some ⟨w.heap.size, 0, none⟩) [x, y] := by
  have hb := (Below.refl _ w).alloc (Nat.le_refl _) (.cells #[.slice x.A x.n x.c, .string x.p, .string x.f, .string x.s, .slice y.A y.n y.c, .string y.p, .string y.f, .string y.s] t)
  intro j z hz
  match j, hz with
  | 0, hz =>
    cases hz
    exact ⟨hx.below hb, w.heap.size, 0, rfl, by simp, by simp, by simp, by simp, by simp⟩
  | 1, hz =>
    cases hz
    exact ⟨hy.below hb, w.heap.size, 0, rfl, by simp, by simp, by simp, by simp, by simp⟩
  | j + 2, hz => simp at hz

end Go.Proofs.Ytkiogbbbigmgnaa.Nms
