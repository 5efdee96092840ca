/-
  A row of bytes that the call makes of a string; contract of spec.l2Low.
-/
import Derived.Test.YtgabgmogcniedaaDoorWord
import Derived.Lib.Case
import Derived.Laws.BytesArg
import Derived.Lib.ConvBytes
namespace Go.Proofs.YtgabgmogcniedaaDoor.Low
open Go.RowKit Pl NmPl Word Go.Lib

/-- block b holds the bytes l, and they may be written -/
def RowB (W : World) (b : Nat) (l : List UInt8) : Prop := ∀ j c, l[j]? = some c → W.cell? ⟨b, j, none⟩ = some (.int .u8 c.toNat) ∧ W.frozen? ⟨b, j, none⟩ = false
theorem RowB.set {W : World} {b k : Nat} {l : List UInt8} (h : RowB W b l) (hk : k < l.length) (c : UInt8) : RowB (W.setCell ⟨b, k, none⟩ (.int .u8 c.toNat)) b (l.set k c) := by
  intro j d hd
  rw [List.getElem?_set] at hd
  by_cases hjk : k = j
  · subst hjk
    rw [if_pos rfl, if_pos hk] at hd
    cases hd
    obtain ⟨h1, h2⟩ := h k l[k] (List.getElem?_eq_getElem hk)
    exact ⟨World.cell?_setCell_same W _ _ h1, by rw [World.frozen?_setCell]; exact h2⟩
  · rw [if_neg hjk] at hd
    obtain ⟨h1, h2⟩ := h j d hd
    refine ⟨?_, by rw [World.frozen?_setCell]; exact h2⟩
    have hne : (⟨b, k, none⟩ : Addr) ≠ ⟨b, j, none⟩ := fun e => hjk (by cases e; rfl)
    exact (World.cell?_setCell_other W _ _ _ hne).trans h1
theorem row_new (w : World) (s : ByteArray) : RowB (bytesWorld w 5 s) w.heap.size s.data.toList := by
  intro j c hc
  have hj : j < s.size := by rw [← len_size]; exact (List.getElem?_eq_some_iff.1 hc).1
  refine ⟨?_, ?_⟩
  · rw [bytesWorld_cell w 5 s j hj, List.getD_eq_getElem?_getD, hc]; rfl
  · have := bytesWorld_at_new w 5 s
    have hsz : s.size ≤ (bytesCells w 5 s).size := by
      unfold bytesCells
      rw [Array.size_append, Array.size_map]
      exact Nat.le_add_right _ _
    simp [World.frozen?, this]
    omega
theorem below_bytes (w : World) (s : ByteArray) : Below w.heap.size w (bytesWorld w 5 s) :=
  ⟨rfl, rfl, rfl, by rw [bytesWorld_size]; omega, fun k hk => bytesWorld_at_old w 5 s k hk⟩
/-- the first k bytes lowered -/
def lowK (l : List UInt8) (k : Nat) : List UInt8 := Lib.toLowerA (l.take k) ++ l.drop k
theorem lowK_len (l : List UInt8) (k : Nat) : (lowK l k).length = l.length := by
  unfold lowK Lib.toLowerA; simp; omega
theorem lowK_at {l : List UInt8} {k : Nat} {c : UInt8} (h : l[k]? = some c) : (lowK l k)[k]? = some c := by
  have hk := (List.getElem?_eq_some_iff.1 h).1
  unfold lowK Lib.toLowerA
  rw [List.getElem?_append_right (by simp; omega)]
  simp [h, Nat.min_eq_left (Nat.le_of_lt hk)]
theorem lowK_succ {l : List UInt8} {k : Nat} {c : UInt8} (h : l[k]? = some c) : lowK l (k + 1) = (lowK l k).set k (Lib.lowerB c) := by
  have hk := (List.getElem?_eq_some_iff.1 h).1
  have he := (List.getElem?_eq_some_iff.1 h).2
  have hl : (Lib.toLowerA (l.take k)).length = k := by unfold Lib.toLowerA; simp; omega
  unfold lowK
  rw [List.set_append_right _ _ (by omega), hl, Nat.sub_self, List.drop_eq_getElem_cons hk, List.set_cons_zero, List.take_add_one, h]
  unfold Lib.toLowerA
  simp
theorem low_up {c : UInt8} (h : isUp c = true) : ((Lib.lowerB c).toNat : Int) = (c.toNat : Int) + 32 := by
  have h2 : 65 ≤ c.toNat ∧ c.toNat ≤ 90 := by unfold isUp at h; simpa using h
  have e : Lib.isUpperB c = true := by unfold Lib.isUpperB; simp [UInt8.le_iff_toNat_le]; omega
  unfold Lib.lowerB
  rw [e, if_pos rfl, UInt8.toNat_add]
  have : (32 : UInt8).toNat = 32 := rfl
  omega
theorem low_no {c : UInt8} (h : isUp c = false) : Lib.lowerB c = c := by
  have h2 : ¬ (65 ≤ c.toNat ∧ c.toNat ≤ 90) := by unfold isUp at h; simpa using h
  have e : Lib.isUpperB c = false := by
    unfold Lib.isUpperB
    rw [Bool.eq_false_iff]
    intro he
    simp [UInt8.le_iff_toNat_le] at he
    exact h2 he
  unfold Lib.lowerB
  rw [e]; rfl
theorem set_same {l : List UInt8} {k : Nat} {c : UInt8} (h : l[k]? = some c) : l.set k c = l := by
  obtain ⟨hk, e⟩ := List.getElem?_eq_some_iff.1 h
  rw [← e]; exact List.set_getElem_self hk
/-- the row read as a string -/
theorem row_str {W : World} {b n cap : Nat} {l : List UInt8} (h : RowB W b l) (hn : l.length = n) :
    (convert 22 9 (.slice (some ⟨b, 0, none⟩) n cap)).run Tryd.prog W = .ok (.string (strOfNums (l.map fun c => (c.toNat : Int)))) W := by
  refine (run_convert_bytes_arg _ 22 5 Tryd.underlying22 Tryd.underlying5 b 0 n cap (l.map fun c => (c.toNat : Int)) (by simpa using hn) (fun i hi => ?_) 9 Tryd.underlying9)
  have hi' : i < l.length := by omega
  rw [Nat.zero_add, (h i l[i] (List.getElem?_eq_getElem hi')).1]
  simp [List.getD, List.getElem?_eq_getElem hi']
theorem nums_str (l : List UInt8) : strOfNums (l.map fun c => (c.toNat : Int)) = ⟨l.toArray⟩ := by
  unfold strOfNums
  rw [List.map_map]
  have : l.map ((fun n : Int => UInt8.ofNat n.toNat) ∘ fun c : UInt8 => (c.toNat : Int)) = l := by
    conv => rhs; rw [← List.map_id l]
    apply List.map_congr_left
    intro x _
    simp
  rw [this]

set_option maxHeartbeats 2000000 in
set_option maxRecDepth 100000 in
theorem l2Low (s : ByteArray) (w : World) (hs : s.size ≤ 1048576) :
    Calls Tryd.prog 31 #[.string s] w fun e w' => e = .returned (.string ⟨(Lib.toLowerA s.data.toList).toArray⟩) ∧ Below w.heap.size w w' := by
  have hcv := Go.Lib.run_convert_string_bytes (P := Tryd.prog) w 9 22 5 s Tryd.underlying9 Tryd.underlying22 Tryd.underlying5
  have HR := Lib.hid (row_new w s)
  have HB := Lib.hid (below_bytes w s)
  have HL := Lib.hid (len_size s)
  generalize bytesWorld w 5 s = W1 at *
  generalize grownCap w s.size 0 5 = cap at *
  obtain ⟨n, HN⟩ : ∃ n, Hid (n = s.size) := ⟨_, Lib.hid rfl⟩
  rw [← HN.out] at hcv hs
  go_enter Tryd.func31, Tryd.ntmps31
  go_wp2_with fail
  clear hcv
  go_loopw [4] (fun i wr => ∃ k : Nat, k ≤ n ∧ i = .int .i64 k ∧ Hid (RowB wr w.heap.size (lowK s.data.toList k)) ∧ Below w.heap.size w wr) (fun i _ => n - (intOf i).toNat)
  case atStart => exact ⟨0, Nat.zero_le _, rfl, Lib.hid (by unfold lowK Lib.toLowerA; simpa using HR.out), HB.out⟩
  case round =>
    obtain ⟨k, hk, rfl, HRk, hb⟩ := hrel
    by_cases hlt : k < n
    · have hkx : k < s.data.toList.length := by rw [HL.out, ← HN.out]; exact hlt
      have hc? := List.getElem?_eq_getElem hkx
      have hkl : k < (lowK s.data.toList k).length := by rw [lowK_len]; exact hkx
      obtain ⟨hcell, hfr⟩ := HRk.out k _ (lowK_at hc?)
      have HS := Lib.hid (lowK_succ hc?)
      have HAt := Lib.hid (lowK_at hc?)
      have HKl := Lib.hid hkl
      clear hc? hkl
      generalize s.data.toList[k] = c at *
      cases hu : isUp c with
      | true =>
        have HU := Lib.hid hu
        have HLo := Lib.hid (low_up hu)
        have hlb : 65 ≤ c.toNat ∧ c.toNat ≤ 90 := by unfold isUp at hu; simpa using hu
        clear hu
        go_wp2_with fail
        refine (up_s _ true _ HU.out).mono ?_
        rintro e w' ⟨rfl, rfl⟩
        go_wp2_with fail
        go_roundw
        case rel =>
          refine ⟨k + 1, by omega, by go_num, Lib.hid ?_, hb.setCell (p := ⟨w.heap.size, k, none⟩) (Nat.le_refl _) _⟩
          rw [HS.out]
          have := HRk.out.set HKl.out (Lib.lowerB c)
          rw [HLo.out] at this
          exact this
        case measure => simp [intOf]; omega
      | false =>
        have HU := Lib.hid hu
        have HLo := Lib.hid (low_no hu)
        clear hu
        go_wp2_with fail
        refine (up_s _ false _ HU.out).mono ?_
        rintro e w' ⟨rfl, rfl⟩
        go_wp2_with fail
        go_roundw
        case rel => exact ⟨k + 1, by omega, by go_num, Lib.hid (by rw [HS.out, HLo.out, set_same HAt.out]; exact HRk.out), hb⟩
        case measure => simp [intOf]; omega
    · obtain rfl : k = n := by omega
      have hst := row_str (cap := cap) HRk.out (n := k) (by rw [lowK_len, HL.out, HN.out])
      rw [nums_str] at hst
      have HE : Hid (lowK s.data.toList k = Lib.toLowerA s.data.toList) := Lib.hid (by
        unfold lowK
        rw [List.take_of_length_le (by rw [HL.out, ← HN.out]; exact Nat.le_refl _), List.drop_eq_nil_of_le (by rw [HL.out, ← HN.out]; exact Nat.le_refl _), List.append_nil])
      rw [HE.out] at hst
      generalize ht : ByteArray.mk (Lib.toLowerA s.data.toList).toArray = t at hst
      have HT := Lib.hid ht
      clear ht
      go_wp2_with fail
      go_ret
      exact ⟨by rw [HT.out]; rfl, hb⟩
end Go.Proofs.YtgabgmogcniedaaDoor.Low
