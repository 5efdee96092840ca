/-
  Plain mathematics of JoinStrings: the text after k elements, its length, and when joining succeeds.
-/
import Derived.Test.YtmdjdgamojndkaaDoorPlain
import Derived.Test.YtmdjdgamojndkaaDoorHelp
import Derived.Test.YtmdjdgamojndkaaDoorSplitPl
import Derived.Lib.Join
import Derived.Lib.IndexLaws
import Derived.Lib.Bytealg
namespace Go.Proofs.YtmdjdgamojndkaaDoor.JoinPl
open Pl Help Stands SplitPl

def jb (xs : List ByteArray) : List (List UInt8) := xs.map (·.data.toList)
/-- the first k elements joined -/
def jk (b : UInt8) (xs : List ByteArray) (k : Nat) : List UInt8 := Lib.join (jb (xs.take k)) [b]

theorem jk_zero (b : UInt8) (xs : List ByteArray) : jk b xs 0 = [] := rfl
theorem jk_one (b : UInt8) (xs : List ByteArray) (x : ByteArray) (h : xs[0]? = some x) : jk b xs 1 = x.data.toList := by
  cases xs with
  | nil => simp at h
  | cons y r => simp at h; subst h; simp [jk, jb, Lib.join_one]
theorem jk_succ (b : UInt8) (xs : List ByteArray) (k : Nat) (x : ByteArray) (hk : 0 < k) (h : xs[k]? = some x) : jk b xs (k + 1) = jk b xs k ++ [b] ++ x.data.toList := by
  cases xs with
  | nil => simp at h
  | cons y r =>
    obtain ⟨m, rfl⟩ : ∃ m, k = m + 1 := ⟨k - 1, by omega⟩
    have h' : (jb r)[m]? = some x.data.toList := by
      simp only [List.getElem?_cons_succ] at h
      simp [jb, h]
    simp only [jk, jb, List.take_succ_cons, List.map_cons, Lib.join_cons]
    rw [List.map_take, List.map_take]
    have := Lib.joinTail_take_succ [b] (jb r) m x.data.toList h'
    simp only [jb] at this
    rw [this]
    simp [List.append_assoc]
theorem lens_jb (xs : List ByteArray) : Lib.lens (jb xs) = lens xs := by
  unfold Lib.lens lens jb
  rw [List.map_map]
  congr 1
theorem jk_len (b : UInt8) (xs : List ByteArray) (k : Nat) (h0 : 0 < k) (hk : k ≤ xs.length) : (jk b xs k).length = k - 1 + lens (xs.take k) := by
  cases xs with
  | nil => simp at hk; omega
  | cons y r =>
    obtain ⟨m, rfl⟩ : ∃ m, k = m + 1 := ⟨k - 1, by omega⟩
    have hm : (r.take m).length = m := by rw [List.length_take]; simp at hk; omega
    have e := lens_jb (r.take m)
    have e2 : lens ((y :: r).take (m + 1)) = y.size + lens (r.take m) := by simp [lens]
    rw [e2]
    simp only [jk, jb, List.take_succ_cons, List.map_cons, Lib.join_cons, List.length_append, Lib.joinTail_length, List.length_map, hm]
    rw [len_size]
    unfold jb at e
    rw [e]
    simp
    omega

/-- joining succeeds -/
def okB (b : UInt8) (xs : List ByteArray) : Bool := xs.all (fun x => !stB b x.data.toList) && decide (xs.length - 1 + lens xs ≤ 4000) && decide (0 < xs.length)
theorem okB_false_st {b : UInt8} {xs : List ByteArray} {k : Nat} {x : ByteArray} (h : xs[k]? = some x) (hs : stB b x.data.toList = true) : okB b xs = false := by
  have hm : x ∈ xs := List.mem_of_getElem? h
  have : xs.all (fun x => !stB b x.data.toList) = false := by
    rw [List.all_eq_false]
    exact ⟨x, hm, by simp [hs]⟩
  simp [okB, this]
theorem okB_false_len {b : UInt8} {xs : List ByteArray} (h : 4000 < xs.length - 1 + lens xs) : okB b xs = false := by
  have : decide (xs.length - 1 + lens xs ≤ 4000) = false := by simp; omega
  simp [okB, this]
theorem okB_true {b : UInt8} {xs : List ByteArray} (h1 : ∀ (i : Nat) (x : ByteArray), xs[i]? = some x → stB b x.data.toList = false) (h2 : xs.length - 1 + lens xs ≤ 4000) (h3 : 0 < xs.length) : okB b xs = true := by
  have : xs.all (fun x => !stB b x.data.toList) = true := by
    rw [List.all_eq_true]
    intro x hx
    obtain ⟨i, hi⟩ := List.getElem?_of_mem hx
    simp [h1 i x hi]
  simp [okB, this, h2, h3]
theorem jb_ba (L : List (List UInt8)) : jb (L.map ba) = L := by
  unfold jb
  rw [List.map_map]
  conv => rhs; rw [← List.map_id L]
  apply List.map_congr_left
  intro x _
  exact toList_ba x
theorem jk_split (b : UInt8) (l : List UInt8) : jk b ((split b l).map ba) ((split b l).map ba).length = l := by
  unfold jk
  rw [List.take_length, jb_ba, join_split]
theorem split_pos (b : UInt8) (l : List UInt8) : 0 < ((split b l).map ba).length := by simp [split]
theorem split_lens (b : UInt8) (l : List UInt8) : ((split b l).map ba).length - 1 + lens ((split b l).map ba) = l.length := by
  have h := jk_len b ((split b l).map ba) _ (split_pos b l) (Nat.le_refl _)
  rw [jk_split, List.take_length] at h
  exact h.symm
theorem split_ok (b : UInt8) (l : List UInt8) (hl : l.length ≤ 4000) : okB b ((split b l).map ba) = true := by
  refine okB_true (fun i x hx => ?_) (by rw [split_lens]; exact hl) (split_pos b l)
  have hm := List.mem_of_getElem? hx
  obtain ⟨y, hy, rfl⟩ := List.mem_map.1 hm
  rw [toList_ba]
  exact split_free b l y hy
end Go.Proofs.YtmdjdgamojndkaaDoor.JoinPl
