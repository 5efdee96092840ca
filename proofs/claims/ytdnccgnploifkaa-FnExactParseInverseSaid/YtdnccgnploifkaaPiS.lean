/-
  ParseInverse: the name that the model reads.
-/
import Derived.Test.YtdnccgnploifkaaPiC
namespace Go.Proofs.Ytdnccgnploifkaa.Pi
open Go.RowKit Pl Strs Help Name Stands SplitPl NmPl Word Part NGood Forms
set_option linter.unusedSimpArgs false
set_option linter.unusedVariables false

def psS (s : ByteArray) : List (List UInt8) := split 44 s.data.toList
def hdS (ps : List (List UInt8)) : List UInt8 := ps.headD []
def sp32 (l : List UInt8) : Bool := match l with | [] => false | c :: _ => c == 32
def sOk : List (List UInt8) → Bool
  | [_] => true
  | [_, b] => sp32 b
  | [_, b, c] => sp32 b && sp32 c
  | _ => false
def sX : List (List UInt8) → List ByteArray
  | [_, b] => (gvL (b.drop 1)).map ba
  | [_, b, _] => (gvL (b.drop 1)).map ba
  | _ => []
def sU : List (List UInt8) → ByteArray
  | [_, _, c] => ba (c.drop 1)
  | _ => em
def sP (ps : List (List UInt8)) : ByteArray := ba (jn (spD 32 (hdS ps)))
def sF (ps : List (List UInt8)) : ByteArray := ba (spC 32 (hdS ps))
theorem ba_em {u : ByteArray} (h : u.data.toList = []) : em = u := by rw [← ba_toList u, h]; rfl
theorem cand_eq_s {xs : List ByteArray} {p f u s : ByteArray} (h : okN xs p f u = true) (e : s = ba (invL xs p f u)) :
    sOk (psS s) = true ∧ sX (psS s) = xs ∧ sP (psS s) = p ∧ sF (psS s) = f ∧ sU (psS s) = u := by
  have hg := good_parts h
  have e' : psS s = split 44 (ivG (ls xs) p.data.toList f.data.toList u.data.toList) := by unfold psS; rw [e, toList_ba, inv_iv]
  obtain ⟨l, hl1, hl2⟩ := words_s hg
  have hsp : spD 32 (hdL p.data.toList f.data.toList) = l ∧ spC 32 (hdL p.data.toList f.data.toList) = f.data.toList := by
    have h2 : spD 32 (hdL p.data.toList f.data.toList) ++ [spC 32 (hdL p.data.toList f.data.toList)] = l ++ [f.data.toList] := hl1
    have h3 := List.append_inj' h2 rfl
    exact ⟨h3.1, by have := h3.2; simpa using this⟩
  rw [e', parts_s hg]
  have hd : ∀ r, sP (hdL p.data.toList f.data.toList :: r) = p ∧ sF (hdL p.data.toList f.data.toList :: r) = f := fun r => by
    unfold sP sF hdS
    simp only [List.headD_cons]
    rw [hsp.1, hsp.2, hl2, ba_toList, ba_toList]
    exact ⟨rfl, rfl⟩
  have hgv : (gvL (jn (ls xs))).map ba = xs := by rw [givens hg, map_ba_ls]
  split
  · rename_i hu
    split
    · rename_i hx
      have hx0 : xs = [] := by cases xs with | nil => rfl | cons a b => simp [ls] at hx
      exact ⟨rfl, hx0.symm, (hd _).1, (hd _).2, ba_em hu⟩
    · exact ⟨rfl, hgv, (hd _).1, (hd _).2, ba_em hu⟩
  · exact ⟨rfl, hgv, (hd _).1, (hd _).2, ba_toList u⟩
theorem pi_no_s {s : ByteArray} (h : sOk (psS s) = true → okN (sX (psS s)) (sP (psS s)) (sF (psS s)) (sU (psS s)) = true → ba (invL (sX (psS s)) (sP (psS s)) (sF (psS s)) (sU (psS s))) ≠ s) : PI s [] em em em false := by
  refine .inr ⟨rfl, rfl, rfl, rfl, rfl, fun xs p f u ho he => ?_⟩
  obtain ⟨h0, h1, h2, h3, h4⟩ := cand_eq_s ho he
  rw [h1, h2, h3, h4] at h
  exact h h0 ho he.symm
theorem ps_cons (s : ByteArray) : ∃ a r, psS s = a :: r := by
  cases h : psS s with
  | nil => unfold psS split at h; simp at h
  | cons a r => exact ⟨a, r, rfl⟩
theorem lens_app (x y : List ByteArray) : lens (x ++ y) = lens x + lens y := by simp [lens]
theorem lens_map (l : List (List UInt8)) : lens (l.map ba) = (l.map List.length).sum := by
  unfold lens
  rw [List.map_map]
  exact congrArg List.sum (List.map_congr_left (fun x _ => ba_size x))
theorem split_sum (b : UInt8) (l : List UInt8) : (split b l).length + ((split b l).map List.length).sum = l.length + 1 := by
  have h1 := JoinPl.split_lens b l
  have h2 := JoinPl.split_pos b l
  rw [lens_map, List.length_map] at h1
  rw [List.length_map] at h2
  omega
theorem head_size (a : List UInt8) : (jn (spD 32 a)).length + (spC 32 a).length ≤ a.length := by
  have h1 := split_sum 32 a
  have h2 := jn_len ((spD 32 a).map ba)
  rw [ls_map_ba, lens_map, List.length_map] at h2
  unfold split at h1
  simp at h1
  omega
theorem cand_size_s {s : ByteArray} {a : List UInt8} {r : List (List UInt8)} (h : psS s = a :: r) : (sX (a :: r)).length + lens (sX (a :: r)) + (sP (a :: r)).size + (sF (a :: r)).size + (sU (a :: r)).size ≤ s.size := by
  have h1 := split_sum 44 s.data.toList
  have hz := len_size s
  have hp := head_size a
  unfold psS at h
  rw [h] at h1
  have eP : (sP (a :: r)).size = (jn (spD 32 a)).length := ba_size _
  have eF : (sF (a :: r)).size = (spC 32 a).length := ba_size _
  have em0 : (em).size = 0 := rfl
  rw [eP, eF]
  match r, h1 with
  | [], h1 =>
    have e1 : sX [a] = [] := rfl
    have e2 : sU [a] = em := rfl
    have e3 : lens [] = 0 := rfl
    rw [e1, e2, e3, em0]
    simp only [List.length_cons, List.map_cons, List.sum_cons, List.length_nil, List.map_nil, List.sum_nil] at h1
    rw [List.length_nil]
    omega
  | [b], h1 =>
    have e1 : sX [a, b] = (gvL (b.drop 1)).map ba := rfl
    have e2 : sU [a, b] = em := rfl
    have h4 := gv_lens (b.drop 1)
    rw [e1, e2, em0, List.length_map]
    rw [List.length_drop] at h4
    simp only [List.length_cons, List.map_cons, List.sum_cons, List.length_nil, List.map_nil, List.sum_nil] at h1
    omega
  | [b, c], h1 =>
    have e1 : sX [a, b, c] = (gvL (b.drop 1)).map ba := rfl
    have e2 : (sU [a, b, c]).size = (c.drop 1).length := ba_size _
    have h4 := gv_lens (b.drop 1)
    rw [e1, e2, List.length_map]
    rw [List.length_drop] at h4 ⊢
    simp only [List.length_cons, List.map_cons, List.sum_cons, List.length_nil, List.map_nil, List.sum_nil] at h1
    omega
  | b :: c :: d :: t, h1 =>
    have e1 : sX (a :: b :: c :: d :: t) = [] := rfl
    have e2 : sU (a :: b :: c :: d :: t) = em := rfl
    have e3 : lens [] = 0 := rfl
    rw [e1, e2, e3, em0]
    simp only [List.length_cons, List.map_cons, List.sum_cons, List.length_nil, List.map_nil, List.sum_nil] at h1
    rw [List.length_nil]
    omega
end Go.Proofs.Ytdnccgnploifkaa.Pi
