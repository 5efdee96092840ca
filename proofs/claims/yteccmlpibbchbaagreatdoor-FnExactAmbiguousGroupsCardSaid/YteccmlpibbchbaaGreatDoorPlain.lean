/-
  Plain mathematics of chapter 1 (lists of bytes and numbers): the checksum. Nothing of the program is named here.
-/
import Derived.WalkKit
namespace Go.Proofs.YteccmlpibbchbaaGreatDoor.Pl

/-- one byte of the checksum -/
def ckStep (h : Int) (c : UInt8) : Int := (41 * h + c.toNat + 1) % 999979
def ckSum (l : List UInt8) : Int := l.foldl ckStep 7

theorem ckStep_bd (h : Int) (c : UInt8) : 0 ≤ ckStep h c ∧ ckStep h c < 999979 := by
  unfold ckStep; omega
theorem ckSum_snoc (l : List UInt8) (c : UInt8) : ckSum (l ++ [c]) = (41 * ckSum l + c.toNat + 1) % 999979 := by
  simp [ckSum, List.foldl_append, ckStep]
theorem ckSum_bd (l : List UInt8) : 0 ≤ ckSum l ∧ ckSum l < 999979 := by
  rcases List.eq_nil_or_concat l with rfl | ⟨l', c, rfl⟩
  · simp [ckSum]
  · rw [List.concat_eq_append, ckSum_snoc]; omega

theorem take_snoc (s : ByteArray) (k : Nat) (h : k < s.size) : s.data.toList.take (k + 1) = s.data.toList.take k ++ [s[k]] := by
  rw [List.take_succ_eq_append_getElem (by simpa using h)]; rfl
theorem take_all (s : ByteArray) (k : Nat) (h : s.size ≤ k) : s.data.toList.take k = s.data.toList :=
  List.take_of_length_le (by simpa using h)

theorem len_size (s : ByteArray) : s.data.toList.length = s.size := by rw [Array.length_toList]; rfl
theorem take_len (s : ByteArray) (k : Nat) (h : k ≤ s.size) : (s.data.toList.take k).length = k := by
  rw [List.length_take, len_size]; omega
theorem ret_int {k : IntKind} {a b : Int} (h : a = b) : Ending.returned (.int k a) = .returned (.int k b) := by rw [h]

/-! splitting at a byte -/
def ba (l : List UInt8) : ByteArray := ⟨l.toArray⟩
theorem ba_size (l : List UInt8) : (ba l).size = l.length := by simp [ba, ByteArray.size]
theorem ba_toList (s : ByteArray) : ba s.data.toList = s := by apply ByteArray.ext; simp [ba]
theorem toList_ba (l : List UInt8) : (ba l).data.toList = l := by simp [ba]
def spStep (b : UInt8) (p : List (List UInt8) × List UInt8) (x : UInt8) : List (List UInt8) × List UInt8 :=
  if x = b then (p.1 ++ [p.2], []) else (p.1, p.2 ++ [x])
def sp (b : UInt8) (l : List UInt8) : List (List UInt8) × List UInt8 := l.foldl (spStep b) ([], [])
def spD (b : UInt8) (l : List UInt8) : List (List UInt8) := (sp b l).1
def spC (b : UInt8) (l : List UInt8) : List UInt8 := (sp b l).2
def split (b : UInt8) (l : List UInt8) : List (List UInt8) := spD b l ++ [spC b l]
theorem sp_snoc (b : UInt8) (l : List UInt8) (x : UInt8) : sp b (l ++ [x]) = spStep b (sp b l) x := by simp [sp, List.foldl_append]
theorem spD_hit (b : UInt8) (l : List UInt8) {x : UInt8} (h : x = b) : spD b (l ++ [x]) = spD b l ++ [spC b l] := by simp [spD, spC, sp_snoc, spStep, h]
theorem spC_hit (b : UInt8) (l : List UInt8) {x : UInt8} (h : x = b) : spC b (l ++ [x]) = [] := by simp [spC, sp_snoc, spStep, h]
theorem spD_miss (b : UInt8) (l : List UInt8) {x : UInt8} (h : x ≠ b) : spD b (l ++ [x]) = spD b l := by simp [spD, sp_snoc, spStep, h]
theorem spC_miss (b : UInt8) (l : List UInt8) {x : UInt8} (h : x ≠ b) : spC b (l ++ [x]) = spC b l ++ [x] := by simp [spC, sp_snoc, spStep, h]
theorem snocInd {P : List UInt8 → Prop} (h0 : P []) (h1 : ∀ l x, P l → P (l ++ [x])) (l : List UInt8) : P l := by
  have : ∀ n (l : List UInt8), l.length = n → P l := by
    intro n
    induction n with
    | zero => intro l hl; rw [List.eq_nil_of_length_eq_zero hl]; exact h0
    | succ n ih =>
      intro l hl
      rcases List.eq_nil_or_concat l with rfl | ⟨l', x, rfl⟩
      · exact h0
      · rw [List.concat_eq_append] at hl ⊢
        exact h1 _ _ (ih _ (by simpa using hl))
  exact this _ l rfl
theorem spC_suffix (b : UInt8) (l : List UInt8) : ∃ d, l = d ++ spC b l ∧ (spD b l).length ≤ d.length := by
  refine snocInd (P := fun l => ∃ d, l = d ++ spC b l ∧ (spD b l).length ≤ d.length) ⟨[], by simp [spC, sp], by simp [spD, sp]⟩ ?_ l
  rintro l x ⟨d, hd, hl⟩
  by_cases h : x = b
  · refine ⟨l ++ [x], by rw [spC_hit b l h]; simp, ?_⟩
    have := congrArg List.length hd
    rw [spD_hit b l h]
    simp at this ⊢
    omega
  · refine ⟨d, by rw [spC_miss b l h, ← List.append_assoc, ← hd], by rw [spD_miss b l h]; exact hl⟩
theorem spC_le (b : UInt8) (l : List UInt8) : (spC b l).length + (spD b l).length ≤ l.length := by
  obtain ⟨d, hd, hl⟩ := spC_suffix b l
  have := congrArg List.length hd
  simp at this
  omega
theorem spC_drop (b : UInt8) (l : List UInt8) : l.drop (l.length - (spC b l).length) = spC b l := by
  obtain ⟨d, hd, _⟩ := spC_suffix b l
  have h := congrArg List.length hd
  simp at h
  have e : l.length - (spC b l).length = d.length := by omega
  rw [e]
  conv => lhs; rw [hd]
  simp
theorem spD_mono (b : UInt8) (l m : List UInt8) : (spD b l).length ≤ (spD b (l ++ m)).length := by
  refine snocInd (P := fun m => (spD b l).length ≤ (spD b (l ++ m)).length) (by simp) ?_ m
  intro m x ih
  rw [← List.append_assoc]
  by_cases h : x = b
  · rw [spD_hit b _ h]; simp; omega
  · rw [spD_miss b _ h]; exact ih
theorem spD_take_lt (b : UInt8) (l : List UInt8) (k : Nat) : (spD b (l.take k)).length < (split b l).length := by
  have := spD_mono b (l.take k) (l.drop k)
  rw [List.take_append_drop] at this
  simp [split]; omega
theorem extract_list (s : ByteArray) (i j : Nat) : (s.extract i j) = ba ((s.data.toList.take j).drop i) := by
  apply ByteArray.ext
  apply Array.ext'
  simp [ba, ByteArray.data_extract, List.extract_eq_take_drop, List.drop_take]
/-- the current part, cut out of the text -/
theorem spC_extract (b : UInt8) (s : ByteArray) (k : Nat) (h : k ≤ s.size) : s.extract (k - (spC b (s.data.toList.take k)).length) k = ba (spC b (s.data.toList.take k)) := by
  rw [extract_list]
  have e := spC_drop b (s.data.toList.take k)
  have hl : (s.data.toList.take k).length = k := take_len s k h
  rw [hl] at e
  rw [e]
end Go.Proofs.YteccmlpibbchbaaGreatDoor.Pl
