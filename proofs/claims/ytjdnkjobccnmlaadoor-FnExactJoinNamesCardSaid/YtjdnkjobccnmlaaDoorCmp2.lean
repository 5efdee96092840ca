/-
  Contracts of impl.comparedParts and spec.l2Compare.
-/
import Derived.Test.YtjdnkjobccnmlaaDoorTx
import Derived.Test.YtjdnkjobccnmlaaDoorCmp
import Derived.Test.YtjdnkjobccnmlaaDoorLow
import Derived.Test.YtjdnkjobccnmlaaDoorCmpPl
import Derived.Deep.RegionHeld3
namespace Go.Proofs.YtjdnkjobccnmlaaDoor.Cmp
open Go.RowKit Pl Strs Help Name Stands SplitPl NmPl Word Part NGood Forms CmpPl
set_option linter.unusedSimpArgs false
set_option linter.unusedVariables false

def lowS (s : ByteArray) : ByteArray := ⟨(Lib.toLowerA s.data.toList).toArray⟩
/-- what names are compared by -/
def cpL (xs : List ByteArray) (p f s : ByteArray) : List ByteArray := [lowS f, p, lowS (ba (fullL xs p f s)), ba (invL xs p f s)]
theorem ok_asc {xs : List ByteArray} {p f s : ByteArray} (h : okN xs p f s = true) : asc f.data.toList ∧ asc (ba (fullL xs p f s)).data.toList ∧ asc p.data.toList ∧ lowS p = p := by
  obtain ⟨h1, h2, h3, h4⟩ := good_asc (show goodB (ls xs) p.data.toList f.data.toList s.data.toList = true from h)
  refine ⟨h1, by rw [toList_ba]; exact h2, h3, ?_⟩
  unfold lowS
  rw [h4]
theorem lens_le {xs : List ByteArray} (h : ∀ x ∈ ls xs, x.length ≤ 12) : lens xs ≤ 12 * xs.length := by
  induction xs with
  | nil => simp [lens]
  | cons x r ih =>
    have h1 := ih (fun y hy => h y (by unfold ls at *; exact List.mem_cons_of_mem _ hy))
    have h2 := h x.data.toList (by unfold ls; exact List.mem_cons_self ..)
    rw [len_size] at h2
    simp only [lens, List.map_cons, List.sum_cons, List.length_cons] at *
    omega
theorem low_len {l : List UInt8} (h : lowB l = true) : l.length ≤ 12 := by
  unfold lowB at h
  simp only [Bool.and_eq_true, decide_eq_true_eq] at h
  exact h.1.2
theorem part_len {p : List UInt8} (h : (p.isEmpty || partB p) = true) : p.length ≤ 25 := by
  rw [Bool.or_eq_true] at h
  rcases h with h | h
  · rw [List.isEmpty_iff] at h; subst h; simp
  · unfold partB at h
    simp only [Bool.and_eq_true, decide_eq_true_eq] at h
    obtain ⟨ha, hl⟩ := h
    have e := join_split 32 p
    generalize split 32 p = D at *
    match D, hl with
    | [], _ => rw [← e]; simp [Lib.join]
    | [a], _ =>
      have := low_len (List.all_eq_true.1 ha a (by simp))
      rw [← e]; simp [Lib.join]; omega
    | [a, b], _ =>
      have h1 := low_len (List.all_eq_true.1 ha a (by simp))
      have h2 := low_len (List.all_eq_true.1 ha b (by simp))
      rw [← e]; simp [Lib.join]; omega
/-- a valid name is small -/
theorem ok_small {xs : List ByteArray} {p f s : ByteArray} (h : okN xs p f s = true) : xs.length + lens xs + p.size + f.size + s.size ≤ 1000 := by
  have hg : goodB (ls xs) p.data.toList f.data.toList s.data.toList = true := h
  unfold goodB at hg
  simp only [Bool.and_eq_true, decide_eq_true_eq] at hg
  obtain ⟨⟨⟨⟨h1, h2⟩, h3⟩, h4⟩, h5⟩ := hg
  have e1 := lens_le (xs := xs) (fun x hx => word_len (cap_word (List.all_eq_true.1 h1 x hx)))
  have e2 := part_len h3
  have e3 := word_len (cap_word h4)
  have e4 : s.data.toList.length ≤ 12 := by
    rw [Bool.or_eq_true] at h5
    rcases h5 with h5 | h5
    · rw [List.isEmpty_iff] at h5; rw [h5]; simp
    · exact word_len h5
  rw [ls_len] at h2
  rw [len_size] at e2 e3 e4
  omega
theorem lowAny (s : ByteArray) (w : World) (hs : s.size ≤ 1048576) (ha : asc s.data.toList) :
    Calls Tryd.prog 140 #[.string s] w fun e w' => e = .returned (.string (lowS s)) ∧ Below w.heap.size w w' :=
  Tryd.strings_ToLower_ascii s w (by omega) (asc_at ha)
theorem full_size (xs : List ByteArray) (p f s : ByteArray) : (ba (fullL xs p f s)).size ≤ xs.length + lens xs + p.size + f.size + s.size + 4 := by
  have e : fullL xs p f s = jn (ls [ba (jn (ls xs)), p, f, s]) := by simp [fullL, ls, toList_ba]
  have h := jn_len [ba (jn (ls xs)), p, f, s]
  have h2 := jn_len xs
  rw [ba_size, e]
  simp [lens, ba_size] at h
  omega

set_option maxHeartbeats 4000000 in
theorem compared (A : Option Addr) (c n : Nat) (xs : List ByteArray) (p f s : ByteArray) (w : World) (h : Rdn w A n xs) (hcap : n ≤ c) (hok : okN xs p f s = true) (hlim : n + lens xs + p.size + f.size + s.size ≤ 1048000) :
    Calls Tryd.prog 85 #[nmV (.slice A n c) p f s] w fun e w' => ∃ B, e = .returned (.slice B 4 4) ∧ Rdn w' B 4 (cpL xs p f s) ∧ Below w.heap.size w w' := by
  have HB := Lib.hid ((Below.refl _ w).alloc (Nat.le_refl _) (.cells #[.slice A n c, .string p, .string f, .string s] 51))
  have HR := Lib.hid (h.below HB.out)
  have HC := Lib.hid (C4.new w (.slice A n c) p f s 51)
  obtain ⟨a1, a2, a3, a4⟩ := ok_asc hok
  have hfs : (ba (fullL xs p f s)).size ≤ 1048576 := by have := full_size xs p f s; have := h.2.2; omega
  have HF := Lib.hid (fun w' (hk : Kept (w.alloc (.cells #[.slice A n c, .string p, .string f, .string s] 51)) w') => implFull A c n xs p f s w' (HR.out.below hk) hcap (okN_nes hok) (by omega))
  have HI := Lib.hid (fun w' (hk : Kept (w.alloc (.cells #[.slice A n c, .string p, .string f, .string s] 51)) w') => implInverse A c n xs p f s w' (HR.out.below hk) hcap (okN_nes hok) (by omega))
  have HL1 := Lib.hid (fun w => lowAny f w (by omega) a1)
  have HL2 := Lib.hid (fun w => lowAny p w (by omega) a3)
  have HL3 := Lib.hid (fun w => lowAny (ba (fullL xs p f s)) w hfs a2)
  rw [a4] at HL2
  have HE : Hid (cpL xs p f s = [lowS f, p, lowS (ba (fullL xs p f s)), ba (invL xs p f s)]) := Lib.hid rfl
  clear h hok a1 a2 a3 a4 hfs
  generalize lowS (ba (fullL xs p f s)) = g3 at *
  generalize ba (fullL xs p f s) = g2 at *
  generalize ba (invL xs p f s) = g4 at *
  generalize lowS f = g1 at *
  go_enter Tryd.func85, Tryd.ntmps85
  go_wp2_with fail
  generalize w.alloc (.cells #[.slice A n c, .string p, .string f, .string s] 51) = W0 at *
  have HS : Hid (∀ w', Kept W0 w' → ((w'.cell? ⟨w.heap.size, 0, none⟩ = some (.slice A n c) ∧ w'.cell? ⟨w.heap.size, 1, none⟩ = some (.string p) ∧ w'.cell? ⟨w.heap.size, 2, none⟩ = some (.string f) ∧ w'.cell? ⟨w.heap.size, 3, none⟩ = some (.string s)) ∧ Kept W0 w')) := Lib.hid (fun w' h => ⟨(HC.out.below h).2, h⟩)
  have HK0 := Lib.hid (Kept.drew W0)
  go_region_held3 (fun w' => (w'.cell? ⟨w.heap.size, 0, none⟩ = some (.slice A n c) ∧ w'.cell? ⟨w.heap.size, 1, none⟩ = some (.string p) ∧ w'.cell? ⟨w.heap.size, 2, none⟩ = some (.string f) ∧ w'.cell? ⟨w.heap.size, 3, none⟩ = some (.string s)) ∧ Kept W0 w')
    (first | exact HS.out _ HK0.out | exact HS.out _ (by assumption) | exact HS.out _ (Kept.alloc (by assumption) _))
    (first
      | (go_at_call 94; with_reducible refine (HI.out _ (by first | exact HK0.out | assumption)).mono ?_; rintro e w5 ⟨rfl, b5⟩; have hk5 : Kept W0 w5 := Kept.next (by first | exact HK0.out | assumption) b5)
      | (go_at_call 103; with_reducible refine (HF.out _ (by first | exact HK0.out | assumption)).mono ?_; rintro e w6 ⟨rfl, b6⟩; have hk6 : Kept W0 w6 := Kept.next (by first | exact HK0.out | assumption) b6)
      | (go_at_call 140; with_reducible refine (HL3.out _).mono ?_; rintro e w3 ⟨rfl, b3⟩; have hk3 : Kept W0 w3 := Kept.next (by first | exact HK0.out | assumption) b3)
      | (go_at_call 140; with_reducible refine (HL2.out _).mono ?_; rintro e w2 ⟨rfl, b2⟩; have hk2 : Kept W0 w2 := Kept.next (by first | exact HK0.out | assumption) b2)
      | (go_at_call 140; with_reducible refine (HL1.out _).mono ?_; rintro e w1 ⟨rfl, b1⟩; have hk1 : Kept W0 w1 := Kept.next (by first | exact HK0.out | assumption) b1))
  go_wp2_with fail
  go_ret
  exact ⟨_, rfl, ⟨by rw [HE.out]; exact rds_lit rfl, (fun _ a ha => by cases ha; simp), rfl⟩, HB.out.trans (Below.mono (Kept.alloc (by assumption) _) HB.out.size)⟩
end Go.Proofs.YtjdnkjobccnmlaaDoor.Cmp
