/-
  Several texts of one claim in one file: CmpPl, Low, Cmp, FormsF, Forms2F, Cmp2.
-/
import Derived.Test.YtnekhfajolgjpaaGreatDoorNmPl
import Derived.Lib.Case
import Derived.Test.YtnekhfajolgjpaaGreatDoorWord
import Derived.Laws.BytesArg
import Derived.Lib.ConvBytes
import Derived.Test.YtnekhfajolgjpaaGreatDoorRows
import Derived.Test.YtnekhfajolgjpaaGreatDoorStrs
import Derived.Test.YtnekhfajolgjpaaGreatDoorPlain
import Derived.WalkKit
import Derived.LoopTactic
import Derived.Lib.Hide
import Derived.Laws.Cover1
import Derived.Test.YtnekhfajolgjpaaGreatDoorForms
import Derived.Test.YtnekhfajolgjpaaGreatDoorForms2
import Derived.Test.YtnekhfajolgjpaaGreatDoorTx
import Derived.Test.YtnekhfajolgjpaaGreatDoorOkS
import Derived.Deep.RegionHeld3
/-
  Plain mathematics of the order of names: valid names are of plain bytes, particles are in lower case already. Nothing of the program is named here.
-/
namespace Go.Proofs.YtnekhfajolgjpaaGreatDoor.CmpPl
open Pl Stands SplitPl NmPl

/-- all bytes are below 128 -/
def asc (l : List UInt8) : Prop := ∀ c ∈ l, c.toNat < 128
theorem asc_at {l : List UInt8} (h : asc l) : ∀ (j : Nat) (b : UInt8), l[j]? = some b → b.toNat < 128 := fun _ b hb => h b (List.mem_of_getElem? hb)
theorem lt_asc {c : UInt8} (h : isLt c = true) : c.toNat < 128 := by
  unfold isLt isUp isLo at h; simp at h; omega
theorem hy_asc {c : UInt8} (h : isHy c = true) : c.toNat < 128 := by
  unfold isHy at h; simp at h; omega
theorem wgo_asc : ∀ (l : List UInt8) (p : Bool), wgo p l = true → asc l
  | [], _, _ => fun c hc => by cases hc
  | c :: l, p, h => by
    cases h1 : isLt c with
    | true =>
      rw [wgo_lt h1] at h
      intro x hx
      rcases List.mem_cons.1 hx with rfl | hx
      · exact lt_asc h1
      · exact wgo_asc l true h x hx
    | false =>
      cases p with
      | false => rw [wgo_no' h1] at h; cases h
      | true =>
        cases h2 : isHy c with
        | true =>
          rw [wgo_hy h1 h2] at h
          intro x hx
          rcases List.mem_cons.1 hx with rfl | hx
          · exact hy_asc h2
          · exact wgo_asc l false h x hx
        | false => rw [wgo_no h1 h2] at h; cases h
theorem word_asc {l : List UInt8} (h : wordB l = true) : asc l := by
  unfold wordB at h
  rw [Bool.and_eq_true] at h
  exact wgo_asc l false h.2
theorem cap_asc {l : List UInt8} (h : capB l = true) : asc l := word_asc (cap_word h)
theorem jn_mem (xs : List (List UInt8)) : ∀ c ∈ jn xs, c = 32 ∨ ∃ x ∈ xs, c ∈ x := by
  refine listSnoc (P := fun xs => ∀ c ∈ jn xs, c = 32 ∨ ∃ x ∈ xs, c ∈ x) (fun c hc => by cases hc) ?_ xs
  intro l x ih c hc
  rw [jn_snoc] at hc
  have hl : c ∈ jn l → c = 32 ∨ ∃ y ∈ l ++ [x], c ∈ y := fun h => by
    rcases ih c h with h | ⟨y, hy, hcy⟩
    · exact .inl h
    · exact .inr ⟨y, List.mem_append_left _ hy, hcy⟩
  unfold jstep at hc
  split at hc
  · rcases List.mem_append.1 hc with h | h
    · exact hl h
    · rcases List.mem_cons.1 h with h | h
      · exact .inl h
      · exact .inr ⟨x, by simp, h⟩
  · rcases List.mem_append.1 hc with h | h
    · exact hl h
    · exact .inr ⟨x, by simp, h⟩
theorem jn_asc {xs : List (List UInt8)} (h : ∀ x ∈ xs, asc x) : asc (jn xs) := by
  intro c hc
  rcases jn_mem xs c hc with rfl | ⟨x, hx, hcx⟩
  · decide
  · exact h x hx c hcx
theorem lowB_all {l : List UInt8} (h : lowB l = true) : l ≠ [] ∧ ∀ c ∈ l, isLo c = true := by
  unfold lowB at h
  simp only [Bool.and_eq_true, decide_eq_true_eq] at h
  exact ⟨fun e => by rw [e] at h; simp at h, List.all_eq_true.1 h.2⟩
theorem part_bytes {p : List UInt8} (h : (p.isEmpty || partB p) = true) : ∀ c ∈ p, c = 32 ∨ isLo c = true := by
  rw [Bool.or_eq_true] at h
  rcases h with h | h
  · rw [List.isEmpty_iff] at h; subst h; exact fun c hc => by cases hc
  · unfold partB at h
    rw [Bool.and_eq_true] at h
    have ha := List.all_eq_true.1 h.1
    have e := join_split 32 p
    rw [jn_all (fun x hx => (lowB_all (ha x hx)).1)] at e
    intro c hc
    rw [← e] at hc
    rcases jn_mem _ c hc with h | ⟨x, hx, hcx⟩
    · exact .inl h
    · exact .inr ((lowB_all (ha x hx)).2 c hcx)
theorem part_asc {p : List UInt8} (h : (p.isEmpty || partB p) = true) : asc p := by
  intro c hc
  rcases part_bytes h c hc with rfl | h
  · decide
  · unfold isLo at h; simp at h; omega
theorem part_low {p : List UInt8} (h : (p.isEmpty || partB p) = true) : Lib.toLowerA p = p := by
  unfold Lib.toLowerA
  conv => rhs; rw [← List.map_id p]
  refine List.map_congr_left fun c hc => ?_
  have hu : Lib.isUpperB c = false := by
    unfold Lib.isUpperB
    rw [Bool.eq_false_iff]
    intro he
    simp [UInt8.le_iff_toNat_le] at he
    rcases part_bytes h c hc with rfl | h
    · revert he; decide
    · unfold isLo at h; simp at h; omega
  unfold Lib.lowerB
  rw [hu]; rfl
theorem good_asc {gs : List (List UInt8)} {p f s : List UInt8} (h : goodB gs p f s = true) : asc f ∧ asc (jn [jn gs, p, f, s]) ∧ asc p ∧ Lib.toLowerA p = p := by
  unfold goodB at h
  simp only [Bool.and_eq_true] at h
  obtain ⟨⟨⟨⟨h1, _⟩, h2⟩, h3⟩, h4⟩ := h
  have hs : asc s := by
    rw [Bool.or_eq_true] at h4
    rcases h4 with h4 | h4
    · rw [List.isEmpty_iff] at h4; subst h4; exact fun c hc => by cases hc
    · exact word_asc h4
  refine ⟨cap_asc h3, jn_asc fun x hx => ?_, part_asc h2, part_low h2⟩
  simp only [List.mem_cons, List.not_mem_nil, or_false] at hx
  rcases hx with rfl | rfl | rfl | rfl
  · exact jn_asc fun y hy => cap_asc (List.all_eq_true.1 h1 y hy)
  · exact part_asc h2
  · exact cap_asc h3
  · exact hs
end Go.Proofs.YtnekhfajolgjpaaGreatDoor.CmpPl
/-
  A row of bytes that the call makes of a string; contract of spec.l2Low.
-/
namespace Go.Proofs.YtnekhfajolgjpaaGreatDoor.Low
open Go.RowKit Pl NmPl Word Go.Lib

/-- block b holds the bytes l, and they may be written -/
def RowB (W : World) (b : Nat) (l : List UInt8) : Prop := ∀ j c, l[j]? = some c → W.cell? ⟨b, j, none⟩ = some (.int .u8 c.toNat) ∧ W.frozen? ⟨b, j, none⟩ = false
theorem RowB.set {W : World} {b k : Nat} {l : List UInt8} (h : RowB W b l) (hk : k < l.length) (c : UInt8) : RowB (W.setCell ⟨b, k, none⟩ (.int .u8 c.toNat)) b (l.set k c) := by
  intro j d hd
  rw [List.getElem?_set] at hd
  by_cases hjk : k = j
  · subst hjk
    rw [if_pos rfl, if_pos hk] at hd
    cases hd
    obtain ⟨h1, h2⟩ := h k l[k] (List.getElem?_eq_getElem hk)
    exact ⟨World.cell?_setCell_same W _ _ h1, by rw [World.frozen?_setCell]; exact h2⟩
  · rw [if_neg hjk] at hd
    obtain ⟨h1, h2⟩ := h j d hd
    refine ⟨?_, by rw [World.frozen?_setCell]; exact h2⟩
    have hne : (⟨b, k, none⟩ : Addr) ≠ ⟨b, j, none⟩ := fun e => hjk (by cases e; rfl)
    exact (World.cell?_setCell_other W _ _ _ hne).trans h1
theorem row_new (w : World) (s : ByteArray) : RowB (bytesWorld w 5 s) w.heap.size s.data.toList := by
  intro j c hc
  have hj : j < s.size := by rw [← len_size]; exact (List.getElem?_eq_some_iff.1 hc).1
  refine ⟨?_, ?_⟩
  · rw [bytesWorld_cell w 5 s j hj, List.getD_eq_getElem?_getD, hc]; rfl
  · have := bytesWorld_at_new w 5 s
    have hsz : s.size ≤ (bytesCells w 5 s).size := by
      unfold bytesCells
      rw [Array.size_append, Array.size_map]
      exact Nat.le_add_right _ _
    simp [World.frozen?, this]
    omega
theorem below_bytes (w : World) (s : ByteArray) : Below w.heap.size w (bytesWorld w 5 s) :=
  ⟨rfl, rfl, rfl, by rw [bytesWorld_size]; omega, fun k hk => bytesWorld_at_old w 5 s k hk⟩
/-- the first k bytes lowered -/
def lowK (l : List UInt8) (k : Nat) : List UInt8 := Lib.toLowerA (l.take k) ++ l.drop k
theorem lowK_len (l : List UInt8) (k : Nat) : (lowK l k).length = l.length := by
  unfold lowK Lib.toLowerA; simp; omega
theorem lowK_at {l : List UInt8} {k : Nat} {c : UInt8} (h : l[k]? = some c) : (lowK l k)[k]? = some c := by
  have hk := (List.getElem?_eq_some_iff.1 h).1
  unfold lowK Lib.toLowerA
  rw [List.getElem?_append_right (by simp; omega)]
  simp [h, Nat.min_eq_left (Nat.le_of_lt hk)]
theorem lowK_succ {l : List UInt8} {k : Nat} {c : UInt8} (h : l[k]? = some c) : lowK l (k + 1) = (lowK l k).set k (Lib.lowerB c) := by
  have hk := (List.getElem?_eq_some_iff.1 h).1
  have he := (List.getElem?_eq_some_iff.1 h).2
  have hl : (Lib.toLowerA (l.take k)).length = k := by unfold Lib.toLowerA; simp; omega
  unfold lowK
  rw [List.set_append_right _ _ (by omega), hl, Nat.sub_self, List.drop_eq_getElem_cons hk, List.set_cons_zero, List.take_add_one, h]
  unfold Lib.toLowerA
  simp
theorem low_up {c : UInt8} (h : isUp c = true) : ((Lib.lowerB c).toNat : Int) = (c.toNat : Int) + 32 := by
  have h2 : 65 ≤ c.toNat ∧ c.toNat ≤ 90 := by unfold isUp at h; simpa using h
  have e : Lib.isUpperB c = true := by unfold Lib.isUpperB; simp [UInt8.le_iff_toNat_le]; omega
  unfold Lib.lowerB
  rw [e, if_pos rfl, UInt8.toNat_add]
  have : (32 : UInt8).toNat = 32 := rfl
  omega
theorem low_no {c : UInt8} (h : isUp c = false) : Lib.lowerB c = c := by
  have h2 : ¬ (65 ≤ c.toNat ∧ c.toNat ≤ 90) := by unfold isUp at h; simpa using h
  have e : Lib.isUpperB c = false := by
    unfold Lib.isUpperB
    rw [Bool.eq_false_iff]
    intro he
    simp [UInt8.le_iff_toNat_le] at he
    exact h2 he
  unfold Lib.lowerB
  rw [e]; rfl
theorem set_same {l : List UInt8} {k : Nat} {c : UInt8} (h : l[k]? = some c) : l.set k c = l := by
  obtain ⟨hk, e⟩ := List.getElem?_eq_some_iff.1 h
  rw [← e]; exact List.set_getElem_self hk
/-- the row read as a string -/
theorem row_str {W : World} {b n cap : Nat} {l : List UInt8} (h : RowB W b l) (hn : l.length = n) :
    (convert 87 9 (.slice (some ⟨b, 0, none⟩) n cap)).run Tryz.prog W = .ok (.string (strOfNums (l.map fun c => (c.toNat : Int)))) W := by
  refine (run_convert_bytes_arg _ 87 5 Tryz.underlying87 Tryz.underlying5 b 0 n cap (l.map fun c => (c.toNat : Int)) (by simpa using hn) (fun i hi => ?_) 9 Tryz.underlying9)
  have hi' : i < l.length := by omega
  rw [Nat.zero_add, (h i l[i] (List.getElem?_eq_getElem hi')).1]
  simp [List.getD, List.getElem?_eq_getElem hi']
theorem nums_str (l : List UInt8) : strOfNums (l.map fun c => (c.toNat : Int)) = ⟨l.toArray⟩ := by
  unfold strOfNums
  rw [List.map_map]
  have : l.map ((fun n : Int => UInt8.ofNat n.toNat) ∘ fun c : UInt8 => (c.toNat : Int)) = l := by
    conv => rhs; rw [← List.map_id l]
    apply List.map_congr_left
    intro x _
    simp
  rw [this]

end Go.Proofs.YtnekhfajolgjpaaGreatDoor.Low
/-
  Contracts of spec.l2Text, cmp.Compare and slices.Compare at strings: -1, 0 or 1.
-/
namespace Go.Proofs.YtnekhfajolgjpaaGreatDoor.Cmp
open Go.RowKit Pl Strs

/-- how two strings compare -/
def cmpS (a b : ByteArray) : Int := if Op.bytesLess a.toList b.toList = true then -1 else if (a.toList == b.toList) = true then 0 else 1

/-- how two lists of strings of one length compare -/
def cmpL : List ByteArray → List ByteArray → Int
  | a :: x, b :: y => if cmpS a b = 0 then cmpL x y else cmpS a b
  | _, _ => 0
theorem cmpL_drop {xs ys : List ByteArray} {k : Nat} {x y : ByteArray} (hx : xs[k]? = some x) (hy : ys[k]? = some y) : cmpL (xs.drop k) (ys.drop k) = if cmpS x y = 0 then cmpL (xs.drop (k + 1)) (ys.drop (k + 1)) else cmpS x y := by
  obtain ⟨k1, e1⟩ := List.getElem?_eq_some_iff.1 hx
  obtain ⟨k2, e2⟩ := List.getElem?_eq_some_iff.1 hy
  rw [List.drop_eq_getElem_cons k1, List.drop_eq_getElem_cons k2, e1, e2]
  rfl

end Go.Proofs.YtnekhfajolgjpaaGreatDoor.Cmp
/-
  The full form of the model.
-/
namespace Go.Proofs.YtnekhfajolgjpaaGreatDoor.Forms
open Go.RowKit Pl Strs Help Name Stands SplitPl NmPl Word Part NGood

end Go.Proofs.YtnekhfajolgjpaaGreatDoor.Forms
/-
  The full form of the program.
-/
namespace Go.Proofs.YtnekhfajolgjpaaGreatDoor.Forms
open Go.RowKit Pl Strs Help Name Stands SplitPl NmPl Word Part NGood

end Go.Proofs.YtnekhfajolgjpaaGreatDoor.Forms
/-
  Contracts of impl.comparedParts and spec.l2Compare.
-/
namespace Go.Proofs.YtnekhfajolgjpaaGreatDoor.Cmp
open Go.RowKit Pl Strs Help Name Stands SplitPl NmPl Word Part NGood Forms CmpPl
set_option linter.unusedSimpArgs false
set_option linter.unusedVariables false

def lowS (s : ByteArray) : ByteArray := ⟨(Lib.toLowerA s.data.toList).toArray⟩
theorem ok_asc {xs : List ByteArray} {p f s : ByteArray} (h : okN xs p f s = true) : asc f.data.toList ∧ asc (ba (fullL xs p f s)).data.toList ∧ asc p.data.toList ∧ lowS p = p := by
  obtain ⟨h1, h2, h3, h4⟩ := good_asc (show goodB (ls xs) p.data.toList f.data.toList s.data.toList = true from h)
  refine ⟨h1, by rw [toList_ba]; exact h2, h3, ?_⟩
  unfold lowS
  rw [h4]
theorem full_size (xs : List ByteArray) (p f s : ByteArray) : (ba (fullL xs p f s)).size ≤ xs.length + lens xs + p.size + f.size + s.size + 4 := by
  have e : fullL xs p f s = jn (ls [ba (jn (ls xs)), p, f, s]) := by simp [fullL, ls, toList_ba]
  have h := jn_len [ba (jn (ls xs)), p, f, s]
  have h2 := jn_len xs
  rw [ba_size, e]
  simp [lens, ba_size] at h
  omega

end Go.Proofs.YtnekhfajolgjpaaGreatDoor.Cmp
