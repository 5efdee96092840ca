/-
  Several texts of one claim in one file: FePl, Fe.
-/
import Derived.Test.YteccmlpibbchbaaGreatDoorLb
import Derived.Lib.Bytealg
import Derived.Test.YteccmlpibbchbaaGreatDoorGLb
import Derived.Deep.DeepCutAuto
/-
  The order of strings, and searching in a list of entries, plain.
-/
namespace Go.Proofs.YteccmlpibbchbaaGreatDoor.Lbs
open Go.RowKit Pl Strs Help Name Stands SplitPl NmPl Word Part NGood Nms Jn Ens
set_option linter.unusedSimpArgs false
set_option linter.unusedVariables false

theorem u8_tri {a b : UInt8} (h1 : ¬ a < b) (h2 : ¬ b < a) : a = b := by
  rw [UInt8.lt_iff_toNat_lt] at h1 h2
  exact UInt8.toNat_inj.1 (by omega)
theorem cb_lt : ∀ x y : List UInt8, (Lib.compareBytes x y < 0) ↔ Op.bytesLess x y = true
  | [], [] => by simp [Lib.compareBytes, Op.bytesLess]
  | [], _ :: _ => by simp [Lib.compareBytes, Op.bytesLess]
  | _ :: _, [] => by simp [Lib.compareBytes, Op.bytesLess]
  | a :: x, b :: y => by
    have ih := cb_lt x y
    unfold Lib.compareBytes Op.bytesLess
    by_cases h1 : a < b
    · simp [h1]
    · by_cases h2 : b < a
      · have : a ≠ b := by rintro rfl; exact h1 h2
        simp [h1, h2, this]
      · have := u8_tri h1 h2
        subst this
        simp [h1, ih]
theorem cb_eq : ∀ x y : List UInt8, (Lib.compareBytes x y = 0) ↔ x = y
  | [], [] => by simp [Lib.compareBytes]
  | [], _ :: _ => by simp [Lib.compareBytes]
  | _ :: _, [] => by simp [Lib.compareBytes]
  | a :: x, b :: y => by
    have ih := cb_eq x y
    unfold Lib.compareBytes
    by_cases h1 : a < b
    · have : a ≠ b := by rintro rfl; rw [UInt8.lt_iff_toNat_lt] at h1; omega
      simp [h1, this]
    · by_cases h2 : b < a
      · have : a ≠ b := by rintro rfl; exact h1 h2
        simp [h1, h2, this]
      · have := u8_tri h1 h2
        subst this
        simp [h1, ih]
theorem bl_trans : ∀ x y z : List UInt8, Op.bytesLess x y = true → Op.bytesLess y z = true → Op.bytesLess x z = true
  | [], [], _, h, _ => by simp [Op.bytesLess] at h
  | _ :: _, [], _, h, _ => by simp [Op.bytesLess] at h
  | _, _ :: _, [], _, h => by simp [Op.bytesLess] at h
  | [], _ :: _, _ :: _, _, _ => rfl
  | a :: x, b :: y, c :: z, h1, h2 => by
    unfold Op.bytesLess at *
    simp only [Bool.or_eq_true, Bool.and_eq_true, decide_eq_true_eq, beq_iff_eq, UInt8.lt_iff_toNat_lt] at *
    rcases h1 with h1 | ⟨rfl, h1⟩
    · rcases h2 with h2 | ⟨rfl, h2⟩
      · exact .inl (by omega)
      · exact .inl h1
    · rcases h2 with h2 | ⟨rfl, h2⟩
      · exact .inl h2
      · exact .inr ⟨rfl, bl_trans x y z h1 h2⟩
theorem bl_irr : ∀ x : List UInt8, Op.bytesLess x x = false
  | [] => rfl
  | a :: x => by unfold Op.bytesLess; simp [bl_irr x, UInt8.lt_iff_toNat_lt]
theorem ltS_trans {a b c : ByteArray} (h1 : ltS a b = true) (h2 : ltS b c = true) : ltS a c = true := bl_trans _ _ _ h1 h2
theorem ltS_irr (a : ByteArray) : ltS a a = false := bl_irr _
/-- how two strings compare -/
def cmpB (a b : ByteArray) : Int := Lib.compareBytes a.data.toList b.data.toList
theorem cmpB_lt (a b : ByteArray) : cmpB a b < 0 ↔ ltS a b = true := by
  unfold cmpB ltS
  rw [cb_lt, Lib.toList_data, Lib.toList_data]
theorem cmpB_eq (a b : ByteArray) : cmpB a b = 0 ↔ a = b := by
  unfold cmpB
  rw [cb_eq]
  exact ⟨fun h => ByteArray.ext (Array.ext' h), fun h => by rw [h]⟩
theorem goL_asc : ∀ (L : List En) (p : Option ByteArray), goL p L = true → (∀ q, p = some q → ∀ x ∈ L, ltS q x.key = true) ∧ L.Pairwise (fun x y => ltS x.key y.key = true)
  | [], _, _ => ⟨fun _ _ _ hx => absurd hx (by simp), List.Pairwise.nil⟩
  | x :: r, p, h => by
    unfold goL at h
    simp only [Bool.and_eq_true] at h
    obtain ⟨_, h2, h3⟩ := h
    obtain ⟨i1, i2⟩ := goL_asc r (some x.key) h3
    refine ⟨fun q hq y hy => ?_, List.pairwise_cons.2 ⟨fun y hy => i1 _ rfl y hy, i2⟩⟩
    subst hq
    rcases List.mem_cons.1 hy with rfl | hy
    · exact h2
    · exact ltS_trans h2 (i1 _ rfl y hy)
theorem okLib_asc {L : List En} (h : okLib L = true) : L.Pairwise (fun x y => ltS x.key y.key = true) := by
  unfold okLib at h
  simp only [Bool.and_eq_true] at h
  exact (goL_asc L none h.2).2
theorem asc_at {L : List En} (h : L.Pairwise (fun x y => ltS x.key y.key = true)) {i j : Nat} {x y : En} (hi : L[i]? = some x) (hj : L[j]? = some y) (hij : i < j) : ltS x.key y.key = true := by
  obtain ⟨h1, rfl⟩ := List.getElem?_eq_some_iff.1 hi
  obtain ⟨h2, rfl⟩ := List.getElem?_eq_some_iff.1 hj
  exact List.pairwise_iff_getElem.1 h i j h1 h2 hij
/-- the place of a key, or -1 -/
def fnd : List En → ByteArray → Nat → Int
  | [], _, _ => -1
  | x :: r, t, i => if x.key = t then (i : Int) else fnd r t (i + 1)
theorem fnd_drop {L : List En} {k : Nat} {x : En} (t : ByteArray) (h : L[k]? = some x) : fnd (L.drop k) t k = if x.key = t then (k : Int) else fnd (L.drop (k + 1)) t (k + 1) := by
  obtain ⟨hk, e⟩ := List.getElem?_eq_some_iff.1 h
  rw [List.drop_eq_getElem_cons hk, e]
  rfl
theorem fnd_none : ∀ (L : List En) (t : ByteArray) (k : Nat), (∀ x ∈ L, x.key ≠ t) → fnd L t k = -1
  | [], _, _, _ => rfl
  | x :: r, t, k, h => by
    unfold fnd
    rw [if_neg (h x (by simp)), fnd_none r t (k + 1) (fun y hy => h y (by simp [hy]))]
theorem fnd_at : ∀ (L : List En) (t : ByteArray) (k p : Nat) (x : En), L[p]? = some x → x.key = t → (∀ i y, i < p → L[i]? = some y → y.key ≠ t) → fnd L t k = ((k + p : Nat) : Int)
  | [], _, _, _, _, h, _, _ => by simp at h
  | y :: r, t, k, 0, x, h, hx, _ => by
    simp at h
    subst h
    unfold fnd
    rw [if_pos hx]
    rfl
  | y :: r, t, k, p + 1, x, h, hx, hn => by
    unfold fnd
    rw [if_neg (hn 0 y (by omega) rfl), fnd_at r t (k + 1) p x (by simpa using h) hx (fun i z hi hz => hn (i + 1) z (by omega) (by simpa using hz))]
    congr 1
    omega
theorem fnd_ge : ∀ (L : List En) (t : ByteArray) (k : Nat), -1 ≤ fnd L t k ∧ fnd L t k < ((k + L.length : Nat) : Int)
  | [], _, _ => ⟨Int.le_refl _, by unfold fnd; omega⟩
  | x :: r, t, k => by
    have := fnd_ge r t (k + 1)
    unfold fnd
    rw [List.length_cons]
    split <;> omega
theorem fnd_k : ∀ {L M : List En} (t : ByteArray) (k : Nat), L.map En.key4 = M.map En.key4 → fnd L t k = fnd M t k
  | [], [], _, _, _ => rfl
  | [], _ :: _, _, _, h => by cases h
  | _ :: _, [], _, _, h => by cases h
  | x :: r, y :: s, t, k, h => by
    simp only [List.map_cons, List.cons.injEq] at h
    unfold fnd
    rw [key_k h.1, fnd_k t (k + 1) h.2]
/-- what a binary search finds -/
structure BsOut (L : List En) (t : ByteArray) (p : Nat) (b : Bool) : Prop where
  lo : ∀ i x, i < p → L[i]? = some x → ltS x.key t = true
  hi : ∀ i x, p ≤ i → L[i]? = some x → ltS x.key t = false
  at_ : b = true ↔ ∃ x, L[p]? = some x ∧ x.key = t
theorem BsOut.yes {L : List En} {t : ByteArray} {p : Nat} (h : BsOut L t p true) : fnd L t 0 = (p : Int) := by
  obtain ⟨x, hx, e⟩ := h.at_.1 rfl
  rw [fnd_at L t 0 p x hx e (fun i y hi hy ey => by
    have := h.lo i y hi hy
    rw [ey, ltS_irr] at this
    cases this), Nat.zero_add]
theorem BsOut.no {L : List En} {t : ByteArray} {p : Nat} (h : BsOut L t p false) (ha : L.Pairwise (fun x y => ltS x.key y.key = true)) : fnd L t 0 = -1 := by
  refine fnd_none L t 0 (fun x hx e => ?_)
  obtain ⟨i, hi, rfl⟩ := List.getElem_of_mem hx
  have hx? := List.getElem?_eq_getElem hi
  rcases Nat.lt_trichotomy i p with h1 | h1 | h1
  · have := h.lo i _ h1 hx?
    rw [e, ltS_irr] at this
    cases this
  · subst h1
    have := h.at_.2 ⟨_, hx?, e⟩
    cases this
  · have hp : p < L.length := by omega
    have hp? := List.getElem?_eq_getElem hp
    have h2 := h.hi p _ (Nat.le_refl _) hp?
    have h3 := asc_at ha hp? hx? h1
    rw [e] at h3
    rw [h2] at h3
    cases h3
end Go.Proofs.YteccmlpibbchbaaGreatDoor.Lbs
/-
  Contracts of findKey's order, BinarySearchFunc, findKey, FindEntry and l4Find.
-/
namespace Go.Proofs.YteccmlpibbchbaaGreatDoor.Lbs
open Go.RowKit Pl Strs Help Name Stands SplitPl NmPl Word Part NGood Nms Jn Ens
set_option linter.unusedSimpArgs false
set_option linter.unusedVariables false

/-- the two results of a search -/
def BsPost (L : List En) (t : ByteArray) (N : Nat) (w : World) (e : Ending) (w' : World) : Prop := ∃ (p : Nat) (b : Bool), e = .returned (.tuple #[.int .i64 p, .bool b]) ∧ p ≤ N ∧ BsOut L t p b ∧ Below w.heap.size w w'
/-- what FindEntry answers -/
def feV (L : List En) (t : ByteArray) : Value := if okLib L = true ∧ 0 ≤ fnd L t 0 then .tuple #[.int .i64 (fnd L t 0), .bool true] else .tuple #[.int .i64 0, .bool false]
set_option maxHeartbeats 2000000 in
theorem l4Find_any (A : Option Addr) (c N : Nat) (L : List En) (t : ByteArray) (w : World) (h : RdE w A L) (hn : L.length = N) (hm : N ≤ 1048576) :
    Calls Tryz.prog 47 #[.agg #[.slice A N c], .string t] w fun e w' => e = .returned (.int .i64 (fnd L t 0)) ∧ Below w.heap.size w w' := by
  have HB := Lib.hid ((Below.refl _ w).alloc (Nat.le_refl _) (.cells #[.slice A N c] 33))
  have hc0 := (box1 w (.slice A N c) 33).1
  have H := Lib.hid (h.below HB.out)
  have HN := Lib.hid hn
  clear h hn
  go_enter Tryz.func47, Tryz.ntmps47
  go_wp2_with fail
  generalize w.alloc (.cells #[.slice A N c] 33) = w0 at HB H hc0 ⊢
  go_loop [5] (fun i => ∃ k : Nat, k ≤ N ∧ i = .int .i64 k ∧ Hid (fnd (L.drop k) t k = fnd L t 0)) (fun i => N - (intOf i).toNat)
  case atStart => exact ⟨0, Nat.zero_le _, rfl, Lib.hid rfl⟩
  case round =>
    obtain ⟨k, hk, rfl, HD⟩ := hrel
    by_cases hlt : k < N
    · have hkx : k < L.length := by rw [HN.out]; exact hlt
      have hx? := List.getElem?_eq_getElem hkx
      obtain ⟨_, g, o, rfl, hg, k0, _⟩ := H.out k L[k] hx?
      have HG := Lib.hid (fnd_drop t hx?)
      clear hx?
      generalize L[k] = ex at *
      have HG : Hid (fnd (L.drop k) t k = if ex.key = t then (k : Int) else fnd (L.drop (k + 1)) t (k + 1)) := HG
      generalize ex.key = key at *
      by_cases he : key = t
      · have HF : Hid (fnd L t 0 = (k : Int)) := Lib.hid (by rw [← HD.out, HG.out, if_pos he])
        have hq : (key.toList == t.toList) = true := by rw [he]; simp
        clear he
        go_wp2_with fail
        go_ret
        exact ⟨by rw [HF.out]; rfl, HB.out⟩
      · have HF : Hid (fnd (L.drop (k + 1)) t (k + 1) = fnd L t 0) := Lib.hid (by rw [← HD.out, HG.out, if_neg he])
        have hq : (key.toList == t.toList) = false := ne_forms' he
        clear he
        go_wp2_with fail
        go_round
        case rel => exact ⟨k + 1, by omega, by go_num, HF⟩
        case measure => simp [intOf]; omega
    · have HF : Hid (fnd L t 0 = -1) := Lib.hid (by rw [← HD.out, List.drop_eq_nil_of_le (by rw [HN.out]; omega)]; rfl)
      go_wp2_with fail
      go_ret
      exact ⟨by rw [HF.out]; rfl, HB.out⟩
end Go.Proofs.YteccmlpibbchbaaGreatDoor.Lbs
