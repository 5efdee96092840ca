/-
  Libraries: validity, plain.
-/
import Derived.Test.YteccmlpibbchbaaGreatDoorVe
namespace Go.Proofs.YteccmlpibbchbaaGreatDoor.Lbs
open Go.RowKit Pl Strs Help Name Stands SplitPl NmPl Word Part NGood Nms Jn Ens
set_option linter.unusedSimpArgs false
set_option linter.unusedVariables false

/-- is a string less than another -/
def ltS (a b : ByteArray) : Bool := Op.bytesLess a.toList b.toList
/-- are the entries valid, their keys ascending, behind a key -/
def goL : Option ByteArray → List En → Bool
  | _, [] => true
  | p, x :: r => okE x && ((match p with | none => true | some q => ltS q x.key) && goL (some x.key) r)
/-- is the library valid -/
def okLib (L : List En) : Bool := decide (L.length ≤ 8) && goL none L
theorem all_key4 (L : List Nm) : L.all Nm.ok = (L.map Nm.key).all fun k => okN k.1 k.2.1 k.2.2.1 k.2.2.2 := by
  rw [List.all_map]; rfl
theorem okL_k4 {L M : List Nm} (h : L.map Nm.key = M.map Nm.key) : okL L = okL M := by
  unfold okL
  rw [all_key4, all_key4, h, len_of_key h]
theorem szL_k4 {L M : List Nm} (h : L.map Nm.key = M.map Nm.key) : szL L = szL M := by
  have e : ∀ K : List Nm, K.map Nm.sz = (K.map Nm.key).map fun k => k.1.length + lens k.1 + k.2.1.size + k.2.2.1.size + k.2.2.2.size := fun K => by rw [List.map_map]; rfl
  unfold szL
  rw [e, e, h]
theorem okE_k {x y : En} (h : x.key4 = y.key4) : okE x = okE y := by
  simp only [En.key4, Prod.mk.injEq] at h
  obtain ⟨h1, h2, h3, h4, h5, h6, h7, ⟨h8, h9, h10, h11⟩, h12, h13, h14⟩ := h
  unfold okE
  rw [h1, h2, okL_k4 h3, okL_k4 h4, h5, h6, h7, h8, h9, h10, h11, h12, h13, h14]
theorem key_k {x y : En} (h : x.key4 = y.key4) : x.key = y.key := congrArg (fun t => t.1) h
theorem goL_k : ∀ {L M : List En} (p : Option ByteArray), L.map En.key4 = M.map En.key4 → goL p L = goL p M
  | [], [], _, _ => rfl
  | [], _ :: _, _, h => by cases h
  | _ :: _, [], _, h => by cases h
  | x :: r, y :: s, p, h => by
    simp only [List.map_cons, List.cons.injEq] at h
    unfold goL
    rw [okE_k h.1, key_k h.1, goL_k _ h.2]
theorem okLib_k {L M : List En} (h : L.map En.key4 = M.map En.key4) : okLib L = okLib M := by
  unfold okLib
  rw [goL_k none h, show L.length = M.length by have := congrArg List.length h; simpa using this]
/-- the key ahead of place k -/
def prevK (L : List En) (k : Nat) : Option ByteArray := if k = 0 then none else (L[k - 1]?).map En.key
theorem prevK_zero (L : List En) : prevK L 0 = none := rfl
theorem prevK_succ {L : List En} {k : Nat} {x : En} (h : L[k]? = some x) : prevK L (k + 1) = some x.key := by
  unfold prevK
  rw [if_neg (by omega), Nat.add_sub_cancel, h]
  rfl
theorem prevK_pos {L : List En} {k : Nat} {y : En} (h0 : 0 < k) (h : L[k - 1]? = some y) : prevK L k = some y.key := by
  unfold prevK
  rw [if_neg (by omega), h]
  rfl
theorem goL_drop {L : List En} {k : Nat} {x : En} (p : Option ByteArray) (h : L[k]? = some x) : goL p (L.drop k) = (okE x && ((match p with | none => true | some q => ltS q x.key) && goL (some x.key) (L.drop (k + 1)))) := by
  obtain ⟨hk, e⟩ := List.getElem?_eq_some_iff.1 h
  rw [List.drop_eq_getElem_cons hk, e]
  rfl
end Go.Proofs.YteccmlpibbchbaaGreatDoor.Lbs
