/-
  Contracts of strings.Join at a space, impl.joinPresent, impl.fullForm, spec.l2Inverse, impl.inverseForm.
-/
import Derived.Test.YtdjkgkfgnmcldaaDoorForms
namespace Go.Proofs.YtdjkgkfgnmcldaaDoor.Forms
open Go.RowKit Pl Strs Help Name Stands SplitPl NmPl Word Part NGood

theorem lens_ls (xs : List ByteArray) : Lib.lens (ls xs) = lens xs := by
  unfold Lib.lens lens ls
  rw [List.map_map]
  congr 1
theorem join_len (xs : List ByteArray) : (Lib.join (ls xs) [32]).length ≤ xs.length + lens xs := by
  cases xs with
  | nil => simp [ls, Lib.join]
  | cons y r =>
    have e := lens_ls r
    have e2 : lens (y :: r) = y.size + lens r := by simp [lens]
    have e3 : ls (y :: r) = y.data.toList :: ls r := rfl
    rw [e3, e2, Lib.join_cons, List.length_append, Lib.joinTail_length, len_size, e, ls_len]
    simp
    omega
theorem joinSp (A : Option Addr) (c n : Nat) (xs : List ByteArray) (w : World) (h : Rdn w A n xs) (hcap : n ≤ c) (hlim : n + lens xs ≤ 4194304) :
    Calls Tryd.prog 32 #[.slice A n c, .string ⟨#[32]⟩] w fun e w' => e = .returned (.string (ba (Lib.join (ls xs) [32]))) ∧ Below w.heap.size w w' := by
  obtain ⟨hr, hA, hn⟩ := h
  cases xs with
  | nil =>
    obtain rfl : n = 0 := by simpa using hn.symm
    exact (Tryd.strings_Join_none A c ⟨#[32]⟩ w).mono fun e w' ⟨he, hw⟩ => ⟨he, hw ▸ Below.refl _ _⟩
  | cons x r =>
    have hpos : 0 < n := by rw [← hn]; simp
    obtain ⟨g, o, rfl, _⟩ := hr 0 x rfl
    have hj := join_len (x :: r)
    have := Tryd.strings_Join g o c (x :: r) ⟨#[32]⟩ w (fun j y hy => by
      obtain ⟨g', o', e', hc⟩ := hr j y hy
      simp at e'
      obtain ⟨rfl, rfl⟩ := e'
      exact hc) (hA hpos _ rfl) (by rw [hn]; omega) (by rw [hn]; exact hcap) (by
        have e : (List.map (fun x => x.data.toList) (x :: r)) = ls (x :: r) := rfl
        have e2 : (ByteArray.mk #[32]).data.toList = [32] := rfl
        rw [e, e2]; omega)
    rw [hn] at this
    exact this

/-- the strings that are not empty -/
def fl (xs : List ByteArray) : List ByteArray := xs.filter fun x => !x.data.toList.isEmpty
theorem fl_ls (xs : List ByteArray) : ls (fl xs) = full (ls xs) := by
  unfold ls fl full
  rw [List.filter_map]
  rfl
theorem fl_succ {xs : List ByteArray} {k : Nat} {x : ByteArray} (h : xs[k]? = some x) : fl (xs.take (k + 1)) = fl (xs.take k) ++ (if x.data.toList.isEmpty then [] else [x]) := by
  unfold fl; rw [List.take_add_one, h, List.filter_append]
  congr 1
  rw [Option.toList_some, List.filter_cons]
  cases hx : x.data.toList.isEmpty <;> rfl
theorem fl_len (xs : List ByteArray) : (fl xs).length ≤ xs.length := List.length_filter_le _ _
theorem fl_lens (xs : List ByteArray) : lens (fl xs) ≤ lens xs := by
  unfold fl lens
  induction xs with
  | nil => simp
  | cons x r ih => rw [List.filter_cons]; split <;> simp only [List.map_cons, List.sum_cons] <;> omega

set_option maxHeartbeats 2000000 in
theorem joinPresent (A : Option Addr) (c n : Nat) (xs : List ByteArray) (w : World) (h : Rdn w A n xs) (hlim : n + lens xs ≤ 4194304) :
    Calls Tryd.prog 30 #[.slice A n c] w fun e w' => e = .returned (.string (ba (jn (ls xs)))) ∧ Below w.heap.size w w' := by
  obtain ⟨i0, hi, hz0, hz1, hz2⟩ := info_parts Split.infoStr
  have H := Lib.hid h
  have HN := Lib.hid h.2.2
  clear h
  go_enter Tryd.func30, Tryd.ntmps30
  go_wp2_with fail
  go_loopw [3, 9] (fun v i wr => ∃ k : Nat, k ≤ n ∧ i = .int .i64 k ∧ wr.ownsRow w.heap.size 9 1 v (fl (xs.take k)).length ((fl (xs.take k)).map Value.string) ∧ Below w.heap.size w wr) (fun _ i _ => n - (intOf i).toNat)
  case atStart => exact ⟨0, Nat.zero_le _, rfl, World.ownsRow_lit w #[] 0 (Nat.le_refl _) (Nat.zero_le _) rfl, (Below.refl _ _).alloc (Nat.le_refl _) _⟩
  case round =>
    obtain ⟨k, hk, rfl, hown, hbe⟩ := hrel
    have hbs := hbe.size
    by_cases hlt : k < n
    · have hkx : k < xs.length := by rw [HN.out]; exact hlt
      have hx? := List.getElem?_eq_getElem hkx
      obtain ⟨g, of, rfl, hc0⟩ := H.out.1 k xs[k] hx?
      have hg : g < w.heap.size := H.out.2.1 (by omega) _ rfl
      have hc : wr.cell? ⟨g, of + k, none⟩ = some (.string xs[k]) := (hbe.cell (p := ⟨g, of + k, none⟩) hg).trans hc0
      have HF := Lib.hid (fl_succ hx?)
      have hfl : (fl (xs.take k)).length ≤ n := by have := fl_len (xs.take k); rw [List.length_take] at this; omega
      clear hx? hc0
      generalize xs[k] = x at *
      by_cases hx0 : x.data.toList = []
      · obtain rfl := str_nil hx0
        clear hx0
        have HO := Lib.hid hown
        clear hown
        go_wp2_with fail
        go_roundw
        case rel =>
          refine ⟨k + 1, by omega, by go_num, ?_, hbe⟩
          have e := HF.out
          simp at e
          rw [e]; exact HO.out
        case measure => simp [intOf]; omega
      · obtain ⟨hxe, hxe'⟩ := str_ne hx0
        have HX0 := Lib.hid (List.isEmpty_eq_false_iff.2 hx0)
        clear hx0
        go_wp2_with (first
          | (at_builtin; refine wpList_append_own _ rfl _ _ 41 rfl w.heap.size 9 i0 (.string ByteArray.empty) 1 16 Tryd.underlying41 hi hz0 hz1 hz2 rfl (by decide) _ _ _ rfl (hown.alloc _) ⟨wr.heap.size, 0, none⟩ 1 1 [.string x] rfl rfl (cell_one_new _ _ _) (by simp [Value.oneCell']) (by unfold maxLen; omega) (by omega) (by simp; omega) ?_; intro v' w1 hown' hgrow _)
          | go_in)
        go_roundw
        case rel =>
          refine ⟨k + 1, by omega, by go_num, ?_, (hbe.alloc hbs _).grown hgrow (by simp; omega) (fun g hg => (hown.lt g hg).1)⟩
          have e := HF.out
          rw [HX0.out] at e
          simp at e
          rw [e]
          simpa using hown'
        case measure => simp [intOf]; omega
    · have HT : Hid (xs.take k = xs) := Lib.hid (List.take_of_length_le (by rw [HN.out]; omega))
      rw [HT.out] at hown
      have HE : Hid (ba (Lib.join (ls (fl xs)) [32]) = ba (jn (ls xs))) := Lib.hid (by rw [fl_ls, jn_join])
      obtain ⟨A1, c1, rfl, _, _, _⟩ := own_rds hown
      have hcap := own_cap hown
      have HJ := Lib.hid (joinSp A1 c1 _ (fl xs) wr (Rdn.own hown) hcap (by have h1 := fl_len xs; have h2 := fl_lens xs; rw [HN.out] at h1; omega))
      rw [HE.out] at HJ
      clear hown hcap HE
      go_wp2_with fail
      refine HJ.out.mono ?_
      rintro e w2 ⟨rfl, b2⟩
      go_wp2_with fail
      go_ret
      exact ⟨rfl, hbe.trans (b2.mono hbs)⟩

/-- all words are there -/
def Nes (xs : List ByteArray) : Prop := ∀ x ∈ ls xs, x ≠ []

/-- the inverse form -/
def invL (xs : List ByteArray) (p f s : ByteArray) : List UInt8 := jn [p.data.toList, f.data.toList] ++ (if 0 < xs.length ∨ s.data.toList ≠ [] then [44, 32] ++ jn (ls xs) else []) ++ (if s.data.toList ≠ [] then [44, 32] ++ s.data.toList else [])
theorem inv_00 {xs : List ByteArray} {p f : ByteArray} (h : xs.length = 0) : ba (invL xs p f ⟨#[]⟩) = ba (jn (ls [p, f])) := by
  simp [invL, h, ls]
theorem inv_10 {xs : List ByteArray} {p f : ByteArray} (h : 0 < xs.length) : ba (jn (ls [p, f])) ++ ⟨#[44, 32]⟩ ++ ba (jn (ls xs)) = ba (invL xs p f ⟨#[]⟩) := by
  apply eq_ba; simp [invL, h, ls, ba]
theorem inv_1 {xs : List ByteArray} {p f s : ByteArray} (h : s.data.toList ≠ []) : ba (jn (ls [p, f])) ++ ⟨#[44, 32]⟩ ++ ba (jn (ls xs)) ++ ⟨#[44, 32]⟩ ++ s = ba (invL xs p f s) := by
  apply eq_ba; rw [invL, if_pos (.inr h), if_pos h]; simp [ls, ba]
theorem inv_10' {xs : List ByteArray} {p f : ByteArray} (h : 0 < xs.length) : ba (jn (ls [p, f])) ++ (⟨#[44, 32]⟩ ++ ba (jn (ls xs))) = ba (invL xs p f ⟨#[]⟩) := by
  apply eq_ba; simp [invL, h, ls, ba]
theorem inv_1' {xs : List ByteArray} {p f s : ByteArray} (h : s.data.toList ≠ []) : ba (jn (ls [p, f])) ++ (⟨#[44, 32]⟩ ++ ba (jn (ls xs))) ++ (⟨#[44, 32]⟩ ++ s) = ba (invL xs p f s) := by
  apply eq_ba; rw [invL, if_pos (.inr h), if_pos h]; simp [ls, ba]
theorem two44 : (ByteArray.mk #[44, 32]).size = 2 := rfl
end Go.Proofs.YtdjkgkfgnmcldaaDoor.Forms
