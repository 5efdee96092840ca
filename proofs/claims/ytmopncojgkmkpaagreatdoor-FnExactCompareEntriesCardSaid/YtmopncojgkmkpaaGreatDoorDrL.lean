/-
  Plain mathematics: a word in lower case by Unicode's tables is an article only if it is so byte by byte. Nothing of the program is named here.
-/
import Derived.Test.YtmopncojgkmkpaaGreatDoorFoPl
import Derived.Shelf.Strings.CaseAny
import Derived.Laws.RangeAny
namespace Go.Proofs.YtmopncojgkmkpaaGreatDoor.FoPl
open Pl NmPl Go.Lib

/-- a row of the table leads runes from 128 on to runes from 128 on, or to i or k -/
def rowHigh (x : CaseRow) : Bool :=
  (decide (128 ≤ x.1) || decide (x.2.1 < 128)) && (decide (x.1 < 128) || decide (x.delta 1 > 1114111) || decide (128 ≤ (x.1 : Int) + x.delta 1) || (decide (x.1 = x.2.1) && (decide ((x.1 : Int) + x.delta 1 = 105) || decide ((x.1 : Int) + x.delta 1 = 107))))
set_option maxRecDepth 1000000 in
theorem rowsHigh : caseT.all rowHigh = true := by decide
theorem caseA_high (i : Nat) (hi : i < caseA.size) : rowHigh (caseA.getD i (0, 0, 0, 0, 0)) = true := by
  have hm : caseA.getD i (0, 0, 0, 0, 0) ∈ caseT := by
    unfold caseA at hi ⊢
    simp only [List.size_toArray] at hi
    simp [Array.getD, hi]
  exact List.all_eq_true.1 rowsHigh _ hm
theorem lower_high (r : Int) (h : 128 ≤ r) : 128 ≤ toLowerU r ∨ toLowerU r = 105 ∨ toLowerU r = 107 := by
  unfold toLowerU
  rw [if_neg (by omega)]
  unfold toR lookupGo
  cases hi : lookupIdx caseA r (caseA.size + 1) 0 caseA.size with
  | none => exact .inl h
  | some i =>
    obtain ⟨hil, hlo, hhi⟩ := lookupIdx_some caseA r _ _ _ i hi
    have hr := caseA_high i hil
    simp only [Option.map_some]
    generalize caseA.getD i (0, 0, 0, 0, 0) = x at *
    unfold rowHigh at hr
    simp only [Bool.and_eq_true, Bool.or_eq_true, decide_eq_true_eq] at hr
    show 128 ≤ convertR 1 r x ∨ convertR 1 r x = 105 ∨ convertR 1 r x = 107
    unfold convertR
    generalize x.delta 1 = d at *
    generalize x.1 = a at *
    generalize x.2.1 = b at *
    split <;> omega
/-- a letter of an article -/
def artL (b : UInt8) : Bool := decide (b.toNat = 97) || decide (b.toNat = 110) || decide (b.toNat = 116) || decide (b.toNat = 104) || decide (b.toNat = 101)
theorem enc_mem {z x : Int} (h : x ∈ encodeRuneZ z) (hb : 0 ≤ x ∧ x < 256) (hn : 128 ≤ x ∨ x = 105 ∨ x = 107) : ∃ b ∈ encodeRune z, artL b = false := by
  refine ⟨x.toNat.toUInt8, List.mem_map.2 ⟨x, h, rfl⟩, ?_⟩
  have : x.toNat.toUInt8.toNat = x.toNat := by simp; omega
  unfold artL
  rw [this]
  simp
  omega
theorem enc_high (z : Int) (h : 128 ≤ z ∨ z = 105 ∨ z = 107) : ∃ b ∈ encodeRune z, artL b = false := by
  by_cases h1 : z ≤ 127
  · exact enc_mem (x := z) (by rw [encodeRuneZ_one (by omega) h1]; simp) (by omega) (by omega)
  · by_cases h2 : z ≤ 2047
    · exact enc_mem (x := 192 + z / 64) (by rw [encodeRuneZ_two (by omega) h2]; simp) (by omega) (by omega)
    · by_cases h3 : (2048 ≤ z ∧ z < 55296) ∨ (57343 < z ∧ z ≤ 65535)
      · exact enc_mem (x := 224 + z / 4096) (by rw [encodeRuneZ_three h3]; simp) (by omega) (by omega)
      · by_cases h4 : 65536 ≤ z ∧ z ≤ 1114111
        · exact enc_mem (x := 240 + z / 262144) (by rw [encodeRuneZ_four h4.1 h4.2]; simp) (by omega) (by omega)
        · exact enc_mem (x := 239) (by rw [encodeRuneZ_bad (by omega)]; simp) (by omega) (by omega)
theorem decode_128 (c : UInt8) (t : List UInt8) (h : 128 ≤ c.toNat) : 128 ≤ (decodeL (c :: t)).1 := by
  unfold decodeL
  have hs : 0 < (ByteArray.mk (c :: t).toArray).size := by show 0 < (c :: t).toArray.size; simp
  exact (decode_high ⟨(c :: t).toArray⟩ 0 hs h).1
theorem lowerD_high : ∀ (l : List UInt8), (∃ c ∈ l, 128 ≤ c.toNat) → ∃ b ∈ toLowerD l, artL b = false
  | [], ⟨_, hc, _⟩ => by cases hc
  | c :: t, h => by
    unfold toLowerD
    rw [mapD_step toLowerU (c :: t) (by simp)]
    by_cases hc : c.toNat < 128
    · have h2 : ∃ x ∈ t, 128 ≤ x.toNat := by
        obtain ⟨x, hx, h8⟩ := h
        rcases List.mem_cons.1 hx with rfl | hx
        · omega
        · exact ⟨x, hx, h8⟩
      obtain ⟨b, hb, hn⟩ := lowerD_high t h2
      rw [decodeL_ascii c t hc]
      exact ⟨b, List.mem_append_right _ hb, hn⟩
    · have h8 := decode_128 c t (by omega)
      have hz := lower_high ((decodeL (c :: t)).1 : Int) (by omega)
      obtain ⟨b, hb, hn⟩ := enc_high _ hz
      refine ⟨b, List.mem_append_left _ ?_, hn⟩
      rw [if_pos (by omega)]
      exact hb
theorem art_mem {x : List UInt8} (h : artW x = true) : ∀ b ∈ x, artL b = true := by
  unfold artW at h
  simp only [Bool.or_eq_true, beq_iff_eq] at h
  rcases h with rfl | rfl | rfl <;> decide
theorem art_no {x : List UInt8} (h : ∃ b ∈ x, artL b = false) : artW x = false := by
  rw [Bool.eq_false_iff]
  intro ha
  obtain ⟨b, hb, hn⟩ := h
  rw [art_mem ha b hb] at hn
  cases hn
theorem art_low (l : List UInt8) : artW (toLowerD l) = artW (l.map Lib.lowerB) := by
  by_cases ha : ∀ b ∈ l, b.toNat < 128
  · rw [toLowerD_ascii l ha]; rfl
  · have hh : ∃ c ∈ l, 128 ≤ c.toNat := by
      apply Classical.byContradiction
      intro hn
      exact ha fun b hb => Classical.byContradiction fun h => hn ⟨b, hb, by omega⟩
    rw [art_no (lowerD_high l hh)]
    obtain ⟨c, hc, h8⟩ := hh
    refine (art_no ⟨c, List.mem_map.2 ⟨c, hc, low_no (by unfold isUp; simp; omega)⟩, ?_⟩).symm
    unfold artL
    simp
    omega
end Go.Proofs.YtmopncojgkmkpaaGreatDoor.FoPl
