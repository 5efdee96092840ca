/-
  Plain facts on a name's forms: the way back from the inverse form, and what the full form ends with.
-/
import Derived.Test.YtmdjdgamojndkaaDoorPiC
namespace Go.Proofs.YtmdjdgamojndkaaDoor.NfPl
open Go.RowKit Pl NmPl Help Name NGood Forms _root_.Go.Proofs.YtmdjdgamojndkaaDoor.Pi
set_option linter.unusedSimpArgs false
set_option linter.unusedVariables false

/-- a valid name is read back from its inverse form -/
theorem back_same {s : ByteArray} {xs ys : List ByteArray} {p f u p2 f2 u2 : ByteArray} {r : Bool} (h : okN xs p f u = true) (e : s = ba (invL xs p f u)) (hp : PI s ys p2 f2 u2 r) : r = true ∧ ys = xs ∧ p2 = p ∧ f2 = f ∧ u2 = u := by
  obtain ⟨h1, h2, h3, h4, h5⟩ := hp.uniq (pi_yes h e.symm)
  exact ⟨h5, h1, h2, h3, h4⟩
/-- what is read is valid, and its inverse form is the text -/
theorem read_same {s : ByteArray} {ys : List ByteArray} {p f u : ByteArray} (hp : PI s ys p f u true) : okN ys p f u = true ∧ ba (invL ys p f u) = s := by
  rcases hp with ⟨_, h, e⟩ | ⟨h, _⟩
  · exact ⟨h, e.symm⟩
  · cases h
/-- nothing is read of a text that is none -/
theorem read_none {s : ByteArray} {ys : List ByteArray} {p f u : ByteArray} (hp : PI s ys p f u false) : ys = [] ∧ p = em ∧ f = em ∧ u = em ∧ okN ys p f u = false := by
  rcases hp with ⟨h, _⟩ | ⟨_, rfl, rfl, rfl, rfl, _⟩
  · cases h
  · exact ⟨rfl, rfl, rfl, rfl, ok_em⟩
theorem jstep_end (x y : List UInt8) : ∃ pre, jstep x y = pre ++ y := by
  unfold jstep
  split
  · exact ⟨x ++ [32], by simp⟩
  · exact ⟨x, rfl⟩
theorem jstep_nil (x : List UInt8) : jstep x [] = x := by simp [jstep]
/-- the last text of a name: its suffix, or else its family -/
def lastT (f u : ByteArray) : ByteArray := if u = em then f else u
theorem em_list {u : ByteArray} : u.data.toList = [] ↔ u = em := by
  constructor
  · intro h
    exact ByteArray.ext (Array.toList_inj.1 h)
  · rintro rfl; rfl
theorem full_end (xs : List ByteArray) (p f u : ByteArray) : ∃ pre, fullL xs p f u = pre ++ (lastT f u).data.toList := by
  unfold fullL lastT jn
  simp only [List.foldl_cons, List.foldl_nil]
  split
  · rename_i h
    subst h
    rw [show em.data.toList = [] from rfl, jstep_nil]
    exact jstep_end _ _
  · exact jstep_end _ _
theorem ba_drop (l : List UInt8) (k : Nat) : (ba l).extract k (ba l).size = ba (l.drop k) := by
  apply ByteArray.ext
  apply Array.toList_inj.1
  have h1 : (ba l).size = l.length := ba_size l
  rw [h1]
  simp [ba]
  exact List.take_of_length_le (by rw [List.length_drop]; exact Nat.le_refl _)
theorem full_tail (xs : List ByteArray) (p f u : ByteArray) : (lastT f u).size ≤ (ba (fullL xs p f u)).size ∧ (ba (fullL xs p f u)).extract ((ba (fullL xs p f u)).size - (lastT f u).size) (ba (fullL xs p f u)).size = lastT f u := by
  obtain ⟨pre, e⟩ := full_end xs p f u
  have hl := len_size (lastT f u)
  rw [e]
  refine ⟨by rw [ba_size, List.length_append]; omega, ?_⟩
  rw [ba_drop, ba_size, List.length_append, ← hl, Nat.add_sub_cancel, List.drop_left, ba_toList]
end Go.Proofs.YtmdjdgamojndkaaDoor.NfPl
