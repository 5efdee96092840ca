/-
  Several texts of one claim in one file: FormsF, Forms2, Forms2F, Forms3.
-/
import Derived.Test.YteccmlpibbchbaaGreatDoorForms
/-
  The full form of the model.
-/
namespace Go.Proofs.YteccmlpibbchbaaGreatDoor.Forms
open Go.RowKit Pl Strs Help Name Stands SplitPl NmPl Word Part NGood

set_option maxHeartbeats 2000000 in
theorem l2Full (A : Option Addr) (c n : Nat) (xs : List ByteArray) (p f s : ByteArray) (w : World) (h : Rdn w A n xs) (hlim : n + lens xs + p.size + f.size + s.size ≤ 2097152) :
    Calls Tryz.prog 114 #[nmV (.slice A n c) p f s] w fun e w' => e = .returned (.string (ba (fullL xs p f s))) ∧ Below w.heap.size w w' := by
  have HB := Lib.hid ((Below.refl _ w).alloc (Nat.le_refl _) (.cells #[.slice A n c, .string p, .string f, .string s] 111))
  have HR := Lib.hid (h.below HB.out)
  have HC := Lib.hid (C4.new w (.slice A n c) p f s 111)
  have HE : Hid (fullL xs p f s = jn (ls [ba (jn (ls xs)), p, f, s])) := Lib.hid (by simp [fullL, ls, toList_ba])
  have hg : (ba (jn (ls xs))).size ≤ n + lens xs := by rw [ba_size, ← h.2.2]; exact jn_len xs
  have HG := Lib.hid (fun w' (hk : Below (w.alloc (.cells #[.slice A n c, .string p, .string f, .string s] 111)).heap.size (w.alloc (.cells #[.slice A n c, .string p, .string f, .string s] 111)) w') => l2Given A c n xs p f s w' (HR.out.below hk) (by omega))
  clear h
  generalize ba (jn (ls xs)) = gv at *
  go_enter Tryz.func114, Tryz.ntmps114
  go_wp2_with fail
  generalize w.alloc (.cells #[.slice A n c, .string p, .string f, .string s] 111) = W0 at *
  have HS : Hid (∀ w', Kept W0 w' → ((w'.cell? ⟨w.heap.size, 0, none⟩ = some (.slice A n c) ∧ w'.cell? ⟨w.heap.size, 1, none⟩ = some (.string p) ∧ w'.cell? ⟨w.heap.size, 2, none⟩ = some (.string f) ∧ w'.cell? ⟨w.heap.size, 3, none⟩ = some (.string s)) ∧ Kept W0 w')) := Lib.hid (fun w' h => ⟨(HC.out.below h).2, h⟩)
  have HK0 := Lib.hid (Kept.drew W0)
  go_region_held3 (fun w' => (w'.cell? ⟨w.heap.size, 0, none⟩ = some (.slice A n c) ∧ w'.cell? ⟨w.heap.size, 1, none⟩ = some (.string p) ∧ w'.cell? ⟨w.heap.size, 2, none⟩ = some (.string f) ∧ w'.cell? ⟨w.heap.size, 3, none⟩ = some (.string s)) ∧ Kept W0 w')
    (first | exact HS.out _ HK0.out | exact HS.out _ (by assumption) | exact HS.out _ (Kept.alloc (by assumption) _))
    (first
      | (go_at_call 130; refine (HG.out _ HK0.out).mono ?_; rintro e w7 ⟨rfl, b7⟩; have hk7 : Kept W0 w7 := Kept.next HK0.out b7)
      | (go_at_call 112; refine (l2Join _ _ 4 [gv, p, f, s] _ (rds_lit rfl) rfl (by simp [lens]; omega)).mono ?_; rintro e w8 ⟨rfl, rfl⟩))
  go_wp2_with fail
  go_ret
  exact ⟨by rw [HE.out]; rfl, HB.out.trans (Below.mono (Kept.alloc hk7 _) HB.out.size)⟩
end Go.Proofs.YteccmlpibbchbaaGreatDoor.Forms
/-
  Contracts of strings.Join at a space, impl.joinPresent, impl.fullForm, spec.l2Inverse, impl.inverseForm.
-/
namespace Go.Proofs.YteccmlpibbchbaaGreatDoor.Forms
open Go.RowKit Pl Strs Help Name Stands SplitPl NmPl Word Part NGood

theorem lens_ls (xs : List ByteArray) : Lib.lens (ls xs) = lens xs := by
  unfold Lib.lens lens ls
  rw [List.map_map]
  congr 1
theorem join_len (xs : List ByteArray) : (Lib.join (ls xs) [32]).length ≤ xs.length + lens xs := by
  cases xs with
  | nil => simp [ls, Lib.join]
  | cons y r =>
    have e := lens_ls r
    have e2 : lens (y :: r) = y.size + lens r := by simp [lens]
    have e3 : ls (y :: r) = y.data.toList :: ls r := rfl
    rw [e3, e2, Lib.join_cons, List.length_append, Lib.joinTail_length, len_size, e, ls_len]
    simp
    omega
theorem joinSp (A : Option Addr) (c n : Nat) (xs : List ByteArray) (w : World) (h : Rdn w A n xs) (hcap : n ≤ c) (hlim : n + lens xs ≤ 4194304) :
    Calls Tryz.prog 123 #[.slice A n c, .string ⟨#[32]⟩] w fun e w' => e = .returned (.string (ba (Lib.join (ls xs) [32]))) ∧ Below w.heap.size w w' := by
  obtain ⟨hr, hA, hn⟩ := h
  cases xs with
  | nil =>
    obtain rfl : n = 0 := by simpa using hn.symm
    exact (Tryz.strings_Join_none A c ⟨#[32]⟩ w).mono fun e w' ⟨he, hw⟩ => ⟨he, hw ▸ Below.refl _ _⟩
  | cons x r =>
    have hpos : 0 < n := by rw [← hn]; simp
    obtain ⟨g, o, rfl, _⟩ := hr 0 x rfl
    have hj := join_len (x :: r)
    have := Tryz.strings_Join g o c (x :: r) ⟨#[32]⟩ w (fun j y hy => by
      obtain ⟨g', o', e', hc⟩ := hr j y hy
      simp at e'
      obtain ⟨rfl, rfl⟩ := e'
      exact hc) (hA hpos _ rfl) (by rw [hn]; omega) (by rw [hn]; exact hcap) (by
        have e : (List.map (fun x => x.data.toList) (x :: r)) = ls (x :: r) := rfl
        have e2 : (ByteArray.mk #[32]).data.toList = [32] := rfl
        rw [e, e2]; omega)
    rw [hn] at this
    exact this

/-- the strings that are not empty -/
def fl (xs : List ByteArray) : List ByteArray := xs.filter fun x => !x.data.toList.isEmpty
theorem fl_ls (xs : List ByteArray) : ls (fl xs) = full (ls xs) := by
  unfold ls fl full
  rw [List.filter_map]
  rfl
theorem fl_succ {xs : List ByteArray} {k : Nat} {x : ByteArray} (h : xs[k]? = some x) : fl (xs.take (k + 1)) = fl (xs.take k) ++ (if x.data.toList.isEmpty then [] else [x]) := by
  unfold fl; rw [List.take_add_one, h, List.filter_append]
  congr 1
  rw [Option.toList_some, List.filter_cons]
  cases hx : x.data.toList.isEmpty <;> rfl
theorem fl_len (xs : List ByteArray) : (fl xs).length ≤ xs.length := List.length_filter_le _ _
theorem fl_lens (xs : List ByteArray) : lens (fl xs) ≤ lens xs := by
  unfold fl lens
  induction xs with
  | nil => simp
  | cons x r ih => rw [List.filter_cons]; split <;> simp only [List.map_cons, List.sum_cons] <;> omega

set_option maxHeartbeats 2000000 in
theorem joinPresent (A : Option Addr) (c n : Nat) (xs : List ByteArray) (w : World) (h : Rdn w A n xs) (hlim : n + lens xs ≤ 4194304) :
    Calls Tryz.prog 122 #[.slice A n c] w fun e w' => e = .returned (.string (ba (jn (ls xs)))) ∧ Below w.heap.size w w' := by
  obtain ⟨i0, hi, hz0, hz1, hz2⟩ := info_parts Split.infoStr
  have H := Lib.hid h
  have HN := Lib.hid h.2.2
  clear h
  go_enter Tryz.func122, Tryz.ntmps122
  go_wp2_with fail
  go_loopw [3, 9] (fun v i wr => ∃ k : Nat, k ≤ n ∧ i = .int .i64 k ∧ wr.ownsRow w.heap.size 9 1 v (fl (xs.take k)).length ((fl (xs.take k)).map Value.string) ∧ Below w.heap.size w wr) (fun _ i _ => n - (intOf i).toNat)
  case atStart => exact ⟨0, Nat.zero_le _, rfl, World.ownsRow_lit w #[] 0 (Nat.le_refl _) (Nat.zero_le _) rfl, (Below.refl _ _).alloc (Nat.le_refl _) _⟩
  case round =>
    obtain ⟨k, hk, rfl, hown, hbe⟩ := hrel
    have hbs := hbe.size
    by_cases hlt : k < n
    · have hkx : k < xs.length := by rw [HN.out]; exact hlt
      have hx? := List.getElem?_eq_getElem hkx
      obtain ⟨g, of, rfl, hc0⟩ := H.out.1 k xs[k] hx?
      have hg : g < w.heap.size := H.out.2.1 (by omega) _ rfl
      have hc : wr.cell? ⟨g, of + k, none⟩ = some (.string xs[k]) := (hbe.cell (p := ⟨g, of + k, none⟩) hg).trans hc0
      have HF := Lib.hid (fl_succ hx?)
      have hfl : (fl (xs.take k)).length ≤ n := by have := fl_len (xs.take k); rw [List.length_take] at this; omega
      clear hx? hc0
      generalize xs[k] = x at *
      by_cases hx0 : x.data.toList = []
      · obtain rfl := str_nil hx0
        clear hx0
        have HO := Lib.hid hown
        clear hown
        go_wp2_with fail
        go_roundw
        case rel =>
          refine ⟨k + 1, by omega, by go_num, ?_, hbe⟩
          have e := HF.out
          simp at e
          rw [e]; exact HO.out
        case measure => simp [intOf]; omega
      · obtain ⟨hxe, hxe'⟩ := str_ne hx0
        have HX0 := Lib.hid (List.isEmpty_eq_false_iff.2 hx0)
        clear hx0
        go_wp2_with (first
          | (at_builtin; refine wpList_append_own _ rfl _ _ 61 rfl w.heap.size 9 i0 (.string ByteArray.empty) 1 16 Tryz.underlying61 hi hz0 hz1 hz2 rfl (by decide) _ _ _ rfl (hown.alloc _) ⟨wr.heap.size, 0, none⟩ 1 1 [.string x] rfl rfl (cell_one_new _ _ _) (by simp [Value.oneCell']) (by unfold maxLen; omega) (by omega) (by simp; omega) ?_; intro v' w1 hown' hgrow _)
          | go_in)
        go_roundw
        case rel =>
          refine ⟨k + 1, by omega, by go_num, ?_, (hbe.alloc hbs _).grown hgrow (by simp; omega) (fun g hg => (hown.lt g hg).1)⟩
          have e := HF.out
          rw [HX0.out] at e
          simp at e
          rw [e]
          simpa using hown'
        case measure => simp [intOf]; omega
    · have HT : Hid (xs.take k = xs) := Lib.hid (List.take_of_length_le (by rw [HN.out]; omega))
      rw [HT.out] at hown
      have HE : Hid (ba (Lib.join (ls (fl xs)) [32]) = ba (jn (ls xs))) := Lib.hid (by rw [fl_ls, jn_join])
      obtain ⟨A1, c1, rfl, _, _, _⟩ := own_rds hown
      have hcap := own_cap hown
      have HJ := Lib.hid (joinSp A1 c1 _ (fl xs) wr (Rdn.own hown) hcap (by have h1 := fl_len xs; have h2 := fl_lens xs; rw [HN.out] at h1; omega))
      rw [HE.out] at HJ
      clear hown hcap HE
      go_wp2_with fail
      refine HJ.out.mono ?_
      rintro e w2 ⟨rfl, b2⟩
      go_wp2_with fail
      go_ret
      exact ⟨rfl, hbe.trans (b2.mono hbs)⟩

/-- all words are there -/
def Nes (xs : List ByteArray) : Prop := ∀ x ∈ ls xs, x ≠ []

/-- the inverse form -/
def invL (xs : List ByteArray) (p f s : ByteArray) : List UInt8 := jn [p.data.toList, f.data.toList] ++ (if 0 < xs.length ∨ s.data.toList ≠ [] then [44, 32] ++ jn (ls xs) else []) ++ (if s.data.toList ≠ [] then [44, 32] ++ s.data.toList else [])
theorem inv_00 {xs : List ByteArray} {p f : ByteArray} (h : xs.length = 0) : ba (invL xs p f ⟨#[]⟩) = ba (jn (ls [p, f])) := by
  simp [invL, h, ls]
theorem inv_10 {xs : List ByteArray} {p f : ByteArray} (h : 0 < xs.length) : ba (jn (ls [p, f])) ++ ⟨#[44, 32]⟩ ++ ba (jn (ls xs)) = ba (invL xs p f ⟨#[]⟩) := by
  apply eq_ba; simp [invL, h, ls, ba]
theorem inv_1 {xs : List ByteArray} {p f s : ByteArray} (h : s.data.toList ≠ []) : ba (jn (ls [p, f])) ++ ⟨#[44, 32]⟩ ++ ba (jn (ls xs)) ++ ⟨#[44, 32]⟩ ++ s = ba (invL xs p f s) := by
  apply eq_ba; rw [invL, if_pos (.inr h), if_pos h]; simp [ls, ba]
theorem inv_10' {xs : List ByteArray} {p f : ByteArray} (h : 0 < xs.length) : ba (jn (ls [p, f])) ++ (⟨#[44, 32]⟩ ++ ba (jn (ls xs))) = ba (invL xs p f ⟨#[]⟩) := by
  apply eq_ba; simp [invL, h, ls, ba]
theorem inv_1' {xs : List ByteArray} {p f s : ByteArray} (h : s.data.toList ≠ []) : ba (jn (ls [p, f])) ++ (⟨#[44, 32]⟩ ++ ba (jn (ls xs))) ++ (⟨#[44, 32]⟩ ++ s) = ba (invL xs p f s) := by
  apply eq_ba; rw [invL, if_pos (.inr h), if_pos h]; simp [ls, ba]
theorem two44 : (ByteArray.mk #[44, 32]).size = 2 := rfl
end Go.Proofs.YteccmlpibbchbaaGreatDoor.Forms
/-
  The full form of the program.
-/
namespace Go.Proofs.YteccmlpibbchbaaGreatDoor.Forms
open Go.RowKit Pl Strs Help Name Stands SplitPl NmPl Word Part NGood

set_option maxHeartbeats 2000000 in
theorem implFull (A : Option Addr) (c n : Nat) (xs : List ByteArray) (p f s : ByteArray) (w : World) (h : Rdn w A n xs) (hcap : n ≤ c) (hne : Nes xs) (hlim : n + lens xs + p.size + f.size + s.size ≤ 2097152) :
    Calls Tryz.prog 121 #[nmV (.slice A n c) p f s] w fun e w' => e = .returned (.string (ba (fullL xs p f s))) ∧ Below w.heap.size w w' := by
  have HB := Lib.hid ((Below.refl _ w).alloc (Nat.le_refl _) (.cells #[.slice A n c, .string p, .string f, .string s] 111))
  have HR := Lib.hid (h.below HB.out)
  have HC := Lib.hid (C4.new w (.slice A n c) p f s 111)
  have HE : Hid (fullL xs p f s = jn (ls [ba (jn (ls xs)), p, f, s])) := Lib.hid (by simp [fullL, ls, toList_ba])
  have hg : (ba (jn (ls xs))).size ≤ n + lens xs := by rw [ba_size, ← h.2.2]; exact jn_len xs
  have hjn : Lib.join (ls xs) [32] = jn (ls xs) := jn_all hne
  have HG := Lib.hid (fun w' (hk : Below (w.alloc (.cells #[.slice A n c, .string p, .string f, .string s] 111)).heap.size (w.alloc (.cells #[.slice A n c, .string p, .string f, .string s] 111)) w') => joinSp A c n xs w' (HR.out.below hk) hcap (by omega))
  rw [hjn] at HG
  clear h hne hjn
  generalize ba (jn (ls xs)) = gv at *
  go_enter Tryz.func121, Tryz.ntmps121
  go_wp2_with fail
  generalize w.alloc (.cells #[.slice A n c, .string p, .string f, .string s] 111) = W0 at *
  have HS : Hid (∀ w', Kept W0 w' → ((w'.cell? ⟨w.heap.size, 0, none⟩ = some (.slice A n c) ∧ w'.cell? ⟨w.heap.size, 1, none⟩ = some (.string p) ∧ w'.cell? ⟨w.heap.size, 2, none⟩ = some (.string f) ∧ w'.cell? ⟨w.heap.size, 3, none⟩ = some (.string s)) ∧ Kept W0 w')) := Lib.hid (fun w' h => ⟨(HC.out.below h).2, h⟩)
  have HK0 := Lib.hid (Kept.drew W0)
  go_region_held3 (fun w' => (w'.cell? ⟨w.heap.size, 0, none⟩ = some (.slice A n c) ∧ w'.cell? ⟨w.heap.size, 1, none⟩ = some (.string p) ∧ w'.cell? ⟨w.heap.size, 2, none⟩ = some (.string f) ∧ w'.cell? ⟨w.heap.size, 3, none⟩ = some (.string s)) ∧ Kept W0 w')
    (first | exact HS.out _ HK0.out | exact HS.out _ (by assumption) | exact HS.out _ (Kept.alloc (by assumption) _))
    (first
      | (go_at_call 123; refine (HG.out _ HK0.out).mono ?_; rintro e w7 ⟨rfl, b7⟩; have hk7 : Kept W0 w7 := Kept.next HK0.out b7)
      | (go_at_call 122; refine (joinPresent _ _ 4 [gv, p, f, s] _ ⟨rds_lit rfl, (fun _ a ha => by cases ha; simp), rfl⟩ (by simp [lens]; omega)).mono ?_; rintro e w8 ⟨rfl, b8⟩; have hk8 : Kept W0 w8 := Kept.next (Kept.alloc hk7 _) b8))
  go_wp2_with fail
  go_ret
  exact ⟨by rw [HE.out]; rfl, HB.out.trans (Below.mono hk8 HB.out.size)⟩

end Go.Proofs.YteccmlpibbchbaaGreatDoor.Forms
/-
  Contracts of spec.l2Inverse and impl.inverseForm.
-/
namespace Go.Proofs.YteccmlpibbchbaaGreatDoor.Forms
open Go.RowKit Pl Strs Help Name Stands SplitPl NmPl Word Part NGood

set_option maxHeartbeats 2000000 in
theorem implInverse (A : Option Addr) (c n : Nat) (xs : List ByteArray) (p f s : ByteArray) (w : World) (h : Rdn w A n xs) (hcap : n ≤ c) (hne : Nes xs) (hlim : n + lens xs + p.size + f.size + s.size ≤ 1048576) :
    Calls Tryz.prog 151 #[nmV (.slice A n c) p f s] w fun e w' => e = .returned (.string (ba (invL xs p f s))) ∧ Below w.heap.size w w' := by
  obtain ⟨W1, hW1⟩ : ∃ W1, W1 = (w.alloc (.cells #[.slice A n c, .string p, .string f, .string s] 111)).alloc (.cells #[.string p, .string f] 9) := ⟨_, rfl⟩
  have HB : Hid (Below w.heap.size w W1) := Lib.hid (by rw [hW1]; exact ((Below.refl _ w).alloc (Nat.le_refl _) _).alloc (by simp) _)
  have HR := Lib.hid (h.below HB.out)
  have HC : Hid (C4 W1 w.heap.size (.slice A n c) p f s) := Lib.hid (by
    rw [hW1]; exact (C4.new w (.slice A n c) p f s 111).below ((Below.refl _ _).alloc (Nat.le_refl _) _))
  have HL : Hid (RdS W1 (some ⟨w.heap.size + 1, 0, none⟩) [p, f]) := Lib.hid (by
    have := rds_lit (w := w.alloc (.cells #[.slice A n c, .string p, .string f, .string s] 111)) (cs := #[.string p, .string f]) (t := 9) (xs := [p, f]) rfl
    rw [← hW1] at this
    simpa using this)
  have hz1 : W1.heap.size = w.heap.size + 1 + 1 := by rw [hW1]; simp
  have HW1 := Lib.hid hW1
  clear hW1
  have HZ1 := Lib.hid hz1
  clear hz1
  have HN := Lib.hid h.2.2
  have hjn : Lib.join (ls xs) [32] = jn (ls xs) := jn_all hne
  have HG := Lib.hid (fun w' (hk : Kept W1 w') => joinSp A c n xs w' (HR.out.below hk) hcap (by omega))
  rw [hjn] at HG
  clear hne hjn
  have h1 : (ba (jn (ls [p, f]))).size ≤ 2 + p.size + f.size := by rw [ba_size]; have := jn_len [p, f]; simp [lens] at this; omega
  have h2 : (ba (jn (ls xs))).size ≤ n + lens xs := by rw [ba_size, ← h.2.2]; exact jn_len xs
  have h44 := two44
  have HJ := Lib.hid (joinPresent (some ⟨w.heap.size + 1, 0, none⟩) 2 2 [p, f] W1 ⟨HL.out, (fun _ a ha => by cases ha; have := HZ1.out; simp; omega), rfl⟩ (by simp [lens]; omega))
  have E00 := Lib.hid (fun (h : xs.length = 0) => inv_00 (p := p) (f := f) h)
  have E10 := Lib.hid (fun (h : 0 < xs.length) => inv_10' (p := p) (f := f) h)
  have E1 := Lib.hid (fun (h : s.data.toList ≠ []) => inv_1' (xs := xs) (p := p) (f := f) h)
  clear h HL
  generalize ba (jn (ls [p, f])) = o1 at *
  generalize ba (jn (ls xs)) = gv at *
  generalize lens xs = ll at *
  by_cases hs0 : s.data.toList = []
  · obtain rfl := str_nil hs0
    clear hs0 E1
    by_cases hn0 : n = 0
    · have HV := Lib.hid (E00.out (by rw [HN.out]; exact hn0))
      subst hn0
      go_enter Tryz.func151, Tryz.ntmps151
      go_wp2_with fail
      rw [← HW1.out]
      refine HJ.out.mono ?_
      rintro e w2 ⟨rfl, b2⟩
      have hkw : Kept W1 w2 := b2
      have HCW := Lib.hid (HC.out.below b2)
      obtain ⟨hlb, ha0, ha1, ha2, ha3⟩ := HCW.out
      go_wp2_with fail
      go_ret
      exact ⟨by rw [HV.out]; rfl, HB.out.trans (Below.mono hkw HB.out.size)⟩
    · have hpos : 0 < n := by omega
      have HV := Lib.hid (E10.out (by rw [HN.out]; exact hpos))
      clear hn0
      go_enter Tryz.func151, Tryz.ntmps151
      go_wp2_with fail
      rw [← HW1.out]
      refine HJ.out.mono ?_
      rintro e w2 ⟨rfl, b2⟩
      have hkw : Kept W1 w2 := b2
      have HCW := Lib.hid (HC.out.below b2)
      obtain ⟨hlb, ha0, ha1, ha2, ha3⟩ := HCW.out
      go_wp2_with fail
      refine (HG.out _ hkw).mono ?_
      rintro e w3 ⟨rfl, b3⟩
      have hk3 := Kept.next hkw b3
      have HC3 := Lib.hid (HC.out.below hk3)
      clear hlb ha0 ha1 ha2 ha3
      obtain ⟨hlb, ha0, ha1, ha2, ha3⟩ := HC3.out
      go_wp2_with fail
      go_ret
      exact ⟨by rw [← HV.out]; rfl, HB.out.trans (Below.mono hk3 HB.out.size)⟩
  · obtain ⟨hse, hse'⟩ := str_ne hs0
    have HV := Lib.hid (E1.out hs0)
    clear hs0
    by_cases hn0 : n = 0
    · subst hn0
      go_enter Tryz.func151, Tryz.ntmps151
      go_wp2_with fail
      rw [← HW1.out]
      refine HJ.out.mono ?_
      rintro e w2 ⟨rfl, b2⟩
      have hkw : Kept W1 w2 := b2
      have HCW := Lib.hid (HC.out.below b2)
      obtain ⟨hlb, ha0, ha1, ha2, ha3⟩ := HCW.out
      go_wp2_with fail
      refine (HG.out _ hkw).mono ?_
      rintro e w3 ⟨rfl, b3⟩
      have hk3 := Kept.next hkw b3
      have HC3 := Lib.hid (HC.out.below hk3)
      clear hlb ha0 ha1 ha2 ha3
      obtain ⟨hlb, ha0, ha1, ha2, ha3⟩ := HC3.out
      go_wp2_with fail
      go_ret
      exact ⟨by rw [← HV.out]; rfl, HB.out.trans (Below.mono hk3 HB.out.size)⟩
    · have hpos : 0 < n := by omega
      clear hn0
      go_enter Tryz.func151, Tryz.ntmps151
      go_wp2_with fail
      rw [← HW1.out]
      refine HJ.out.mono ?_
      rintro e w2 ⟨rfl, b2⟩
      have hkw : Kept W1 w2 := b2
      have HCW := Lib.hid (HC.out.below b2)
      obtain ⟨hlb, ha0, ha1, ha2, ha3⟩ := HCW.out
      go_wp2_with fail
      refine (HG.out _ hkw).mono ?_
      rintro e w3 ⟨rfl, b3⟩
      have hk3 := Kept.next hkw b3
      have HC3 := Lib.hid (HC.out.below hk3)
      clear hlb ha0 ha1 ha2 ha3
      obtain ⟨hlb, ha0, ha1, ha2, ha3⟩ := HC3.out
      go_wp2_with fail
      go_ret
      exact ⟨by rw [← HV.out]; rfl, HB.out.trans (Below.mono hk3 HB.out.size)⟩

end Go.Proofs.YteccmlpibbchbaaGreatDoor.Forms
