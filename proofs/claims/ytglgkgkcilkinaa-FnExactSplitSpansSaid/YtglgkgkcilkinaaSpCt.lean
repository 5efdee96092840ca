/-
  Plain mathematics of spans: a list cut at a byte. Nothing of the program is named here.
-/
import Derived.Test.YtglgkgkcilkinaaSpNp
namespace Go.Proofs.Ytglgkgkcilkinaa.SpPl

/-- the first a bytes -/
def fs : Nat → List Sp1 → List Sp1
  | _, [] => []
  | a, x :: r => ⟨x.l.extract 0 (min a x.l.size), x.f, x.t⟩ :: fs (a - x.l.size) r
/-- the others -/
def bs : Nat → List Sp1 → List Sp1
  | _, [] => []
  | a, x :: r => ⟨x.l.extract (min a x.l.size) x.l.size, x.f, x.t⟩ :: bs (a - x.l.size) r
theorem szL_cons (x : Sp1) (r : List Sp1) : szL (x :: r) = x.l.size + szL r := by simp [szL]
theorem fs_snoc (a : Nat) (M : List Sp1) (x : Sp1) : fs a (M ++ [x]) = fs a M ++ [⟨x.l.extract 0 (min (a - szL M) x.l.size), x.f, x.t⟩] := by
  induction M generalizing a with
  | nil => simp [fs, szL]
  | cons y r ih =>
    rw [List.cons_append, fs, fs, ih, szL_cons, List.cons_append]
    rw [show a - y.l.size - szL r = a - (y.l.size + szL r) by omega]
theorem bs_snoc (a : Nat) (M : List Sp1) (x : Sp1) : bs a (M ++ [x]) = bs a M ++ [⟨x.l.extract (min (a - szL M) x.l.size) x.l.size, x.f, x.t⟩] := by
  induction M generalizing a with
  | nil => simp [bs, szL]
  | cons y r ih =>
    rw [List.cons_append, bs, bs, ih, szL_cons, List.cons_append]
    rw [show a - y.l.size - szL r = a - (y.l.size + szL r) by omega]
theorem take_snoc' {L : List Sp1} {k : Nat} {x : Sp1} (h : L[k]? = some x) : L.take (k + 1) = L.take k ++ [x] := by
  rw [List.take_add_one, h]; rfl
theorem fs_take {L : List Sp1} {k : Nat} {x : Sp1} (a : Nat) (h : L[k]? = some x) : fs a (L.take (k + 1)) = fs a (L.take k) ++ [⟨x.l.extract 0 (min (a - szL (L.take k)) x.l.size), x.f, x.t⟩] := by
  rw [take_snoc' h, fs_snoc]
theorem bs_take {L : List Sp1} {k : Nat} {x : Sp1} (a : Nat) (h : L[k]? = some x) : bs a (L.take (k + 1)) = bs a (L.take k) ++ [⟨x.l.extract (min (a - szL (L.take k)) x.l.size) x.l.size, x.f, x.t⟩] := by
  rw [take_snoc' h, bs_snoc]
theorem fs_len (a : Nat) (L : List Sp1) : (fs a L).length = L.length := by
  induction L generalizing a with
  | nil => rfl
  | cons x r ih => rw [fs, List.length_cons, ih, List.length_cons]
theorem bs_len (a : Nat) (L : List Sp1) : (bs a L).length = L.length := by
  induction L generalizing a with
  | nil => rfl
  | cons x r ih => rw [bs, List.length_cons, ih, List.length_cons]
theorem fs_sz (a : Nat) (L : List Sp1) : szL (fs a L) = min a (szL L) := by
  induction L generalizing a with
  | nil => simp [fs, szL]
  | cons x r ih =>
    rw [fs, szL_cons, szL_cons, ih, ByteArray.size_extract]
    omega
theorem bs_sz (a : Nat) (L : List Sp1) : szL (bs a L) = szL L - a := by
  induction L generalizing a with
  | nil => simp [bs, szL]
  | cons x r ih =>
    rw [bs, szL_cons, szL_cons, ih, ByteArray.size_extract]
    omega
end Go.Proofs.Ytglgkgkcilkinaa.SpPl
