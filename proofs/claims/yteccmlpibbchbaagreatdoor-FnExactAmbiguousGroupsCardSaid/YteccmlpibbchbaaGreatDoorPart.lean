/-
  Contracts of impl.isParticle and spec.l2Particle.
-/
import Derived.Test.YteccmlpibbchbaaGreatDoorWord
import Derived.Test.YteccmlpibbchbaaGreatDoorCut
import Derived.Test.YteccmlpibbchbaaGreatDoorSplit
import Derived.Test.YteccmlpibbchbaaGreatDoorStrs
namespace Go.Proofs.YteccmlpibbchbaaGreatDoor.Part
open Go.RowKit Pl Stands SplitPl NmPl Word Cut Strs

set_option maxHeartbeats 1000000 in
theorem isPart (s : ByteArray) (w : World) (hs : s.size ≤ maxLen) :
    Calls Tryz.prog 132 #[.string s] w fun e w' => e = .returned (.bool (partB s.data.toList)) ∧ ∃ q, w' = w.drewN q := by
  cases hst : stB 32 s.data.toList with
  | false =>
    have HP := Lib.hid (part_none hst)
    have HC := Lib.hid (cut_no s 32 w hst)
    clear hst
    cases hl : lowB s.data.toList with
    | false =>
      have HL := Lib.hid hl
      clear hl
      go_enter Tryz.func132, Tryz.ntmps132
      go_wp2_with fail
      refine HC.out.mono ?_
      rintro e w' ⟨rfl, rfl⟩
      go_wp2_with fail
      refine (lowWord_b _ false _ HL.out).mono ?_
      rintro e w' ⟨rfl, rfl⟩
      go_wp2_with fail
      go_ret
      exact ⟨by rw [HP.out, HL.out]; rfl, 0, rfl⟩
    | true =>
      have HL := Lib.hid hl
      clear hl
      go_enter Tryz.func132, Tryz.ntmps132
      go_wp2_with fail
      refine HC.out.mono ?_
      rintro e w' ⟨rfl, rfl⟩
      go_wp2_with fail
      refine (lowWord_b _ true _ HL.out).mono ?_
      rintro e w' ⟨rfl, rfl⟩
      go_wp2_with fail
      go_ret
      exact ⟨by rw [HP.out, HL.out]; rfl, 0, rfl⟩
  | true =>
    have hr := hd_rest hst
    have HP : Hid (partB s.data.toList = (lowB (ba (hd 32 s.data.toList)).data.toList && lowB (ba (rest 32 s.data.toList)).data.toList)) := Lib.hid (by
      rw [toList_ba, toList_ba]
      conv => lhs; rw [hr]
      exact part_two (hd_nofind 32 _))
    have HC := Lib.hid (cut_yes s 32 w hs hst)
    clear hst hr
    generalize ba (hd 32 s.data.toList) = x at *
    generalize ba (rest 32 s.data.toList) = y at *
    cases hl : lowB x.data.toList with
    | false =>
      have HL := Lib.hid hl
      clear hl
      go_enter Tryz.func132, Tryz.ntmps132
      go_wp2_with fail
      refine HC.out.mono ?_
      rintro e w' ⟨rfl, q, rfl⟩
      go_wp2_with fail
      refine (lowWord_b _ false _ HL.out).mono ?_
      rintro e w' ⟨rfl, rfl⟩
      go_wp2_with fail
      go_ret
      exact ⟨by rw [HP.out, HL.out]; rfl, q, rfl⟩
    | true =>
      have HL := Lib.hid hl
      clear hl
      go_enter Tryz.func132, Tryz.ntmps132
      go_wp2_with fail
      refine HC.out.mono ?_
      rintro e w' ⟨rfl, q, rfl⟩
      go_wp2_with fail
      refine (lowWord_b _ true _ HL.out).mono ?_
      rintro e w' ⟨rfl, rfl⟩
      go_wp2_with fail
      refine (lowWord _ _).mono ?_
      rintro e w' ⟨rfl, rfl⟩
      go_wp2_with fail
      go_ret
      exact ⟨by rw [HP.out, HL.out]; rfl, q, rfl⟩
theorem isPart_b (s : ByteArray) (r : Bool) (w : World) (hs : s.size ≤ maxLen) (hr : partB s.data.toList = r) :
    Calls Tryz.prog 132 #[.string s] w fun e w' => e = .returned (.bool r) ∧ ∃ q, w' = w.drewN q := by
  subst hr; exact isPart s w hs

theorem split_el (b : UInt8) (l : List UInt8) : ∀ x ∈ split b l, x.length ≤ l.length := by
  have h : ∀ x ∈ spD b l, x.length ≤ l.length := by
    refine snocInd (P := fun l => ∀ x ∈ spD b l, x.length ≤ l.length) (fun x hx => by cases hx) ?_ l
    intro l c ih x hx
    have hc := spC_le b l
    by_cases h : c = b
    · rw [spD_hit b l h] at hx
      rcases List.mem_append.1 hx with hx | hx
      · have := ih x hx; simp; omega
      · simp at hx; subst hx; simp; omega
    · rw [spD_miss b l h] at hx
      have := ih x hx; simp; omega
  intro x hx
  rcases List.mem_append.1 hx with hx | hx
  · exact h x hx
  · simp at hx; subst hx; have := spC_le b l; omega
theorem split_count (b : UInt8) (l : List UInt8) : (split b l).length ≤ l.length + 1 := by
  have := spC_le b l
  unfold split
  simp
  omega
/-- the words from k on -/
def lows (L : List (List UInt8)) : Bool := L.all fun x => wordB x && x.all isLo
theorem lows_eq (L : List (List UInt8)) : lows L = L.all lowB := by
  unfold lows
  induction L with
  | nil => rfl
  | cons x L ih => simp only [List.all_cons]; rw [low_word, ih]
theorem lows_drop {L : List (List UInt8)} {k : Nat} {x : List UInt8} (h : L[k]? = some x) : lows (L.drop k) = ((wordB x && x.all isLo) && lows (L.drop (k + 1))) := by
  obtain ⟨hk, e⟩ := List.getElem?_eq_some_iff.1 h
  rw [List.drop_eq_getElem_cons hk, e]
  rfl
/-- is it a particle or nothing -/
def partE (l : List UInt8) : Bool := l.isEmpty || partB l

set_option maxHeartbeats 1000000 in
theorem l2Part (s : ByteArray) (w : World) (hs : s.size ≤ 1048576) :
    Calls Tryz.prog 111 #[.string s] w fun e w' => e = .returned (.bool (partE s.data.toList)) ∧ Below w.heap.size w w' := by
  have HL := Lib.hid (len_size s)
  by_cases h00 : s.size = 0
  · have hs : s = ⟨#[]⟩ := ByteArray.ext (Array.eq_empty_of_size_eq_zero h00)
    subst hs
    clear h00 HL
    go_enter Tryz.func111, Tryz.ntmps111
    go_wp2
    go_ret
    exact ⟨rfl, Below.refl _ _⟩
  · have hnil : s.data.toList ≠ [] := by
      intro e
      have := HL.out
      rw [e] at this
      exact h00 this.symm
    have hne' : s.toList.isEmpty = false := by
      rw [Lib.toList_data, List.isEmpty_eq_false_iff]; exact hnil
    have hne : (s.toList == []) = false := by
      rw [beq_eq_false_iff_ne, Lib.toList_data]; exact hnil
    have HE : Hid (partE s.data.toList = (lows (split 32 s.data.toList) && decide ((split 32 s.data.toList).length ≤ 2))) := Lib.hid (by
      unfold partE partB
      rw [lows_eq, List.isEmpty_eq_false_iff.2 hnil]; rfl)
    have HSp : Hid (Calls Tryz.prog 128 #[.string s, .int .u8 32] w fun e w' => ∃ v, e = .returned v ∧ w'.ownsRow w.heap.size 9 1 v (split 32 s.data.toList).length (Split.cs (split 32 s.data.toList)) ∧ Below w.heap.size w w') := Lib.hid (Split.l1Split_any s 32 w (by omega))
    have HZ : Hid (∀ x ∈ split 32 s.data.toList, x.length ≤ 1048576) := Lib.hid (fun x hx => by have := split_el 32 s.data.toList x hx; have := HL.out; omega)
    have hlen : (split 32 s.data.toList).length ≤ 1048577 := by have := split_count 32 s.data.toList; have := HL.out; omega
    clear h00 hnil
    generalize split 32 s.data.toList = L at *
    go_enter Tryz.func111, Tryz.ntmps111
    go_wp2_with fail
    refine HSp.out.mono ?_
    rintro e w1 ⟨v, rfl, o1, b1⟩
    go_wp2_with fail
    obtain ⟨A, c, rfl, _, rd, _⟩ := own_rds (xs := L.map ba) (show w1.ownsRow w.heap.size 9 1 v L.length ((L.map ba).map Value.string) by rw [List.map_map]; exact o1)
    have RD := Lib.hid rd
    clear rd o1 hne hne'
    obtain ⟨n, HN⟩ : ∃ n, Hid (n = L.length) := ⟨_, Lib.hid rfl⟩
    rw [← HN.out] at hlen ⊢
    have HEn : Hid (partE s.data.toList = (lows L && decide (n ≤ 2))) := by rw [HN.out]; exact HE
    clear HE HSp
    go_loopw [4] (fun i wr => ∃ k : Nat, k ≤ n ∧ i = .int .i64 k ∧ Hid (lows (L.drop k) = lows L) ∧ Hid (∃ q, wr = w1.drewN q)) (fun i _ => n - (intOf i).toNat)
    case atStart => exact ⟨0, Nat.zero_le _, rfl, Lib.hid rfl, Lib.hid ⟨0, rfl⟩⟩
    case round =>
      obtain ⟨k, hk, rfl, HA, HW⟩ := hrel
      by_cases hlt : k < n
      · have hkx : k < L.length := by rw [← HN.out]; exact hlt
        have hx? := List.getElem?_eq_getElem hkx
        obtain ⟨g, o, rfl, hc0⟩ := RD.out k (ba L[k]) (by rw [List.getElem?_map, hx?]; rfl)
        have hc : wr.cell? ⟨g, o + k, none⟩ = some (.string (ba L[k])) := by obtain ⟨q, rfl⟩ := HW.out; exact hc0
        have HD := Lib.hid (lows_drop hx?)
        have hsz : (ba L[k]).size ≤ 1048576 := by rw [ba_size]; exact HZ.out _ (List.getElem_mem hkx)
        rw [← toList_ba L[k]] at HD
        clear hx? hc0
        generalize ba L[k] = x at *
        cases hw : wordB x.data.toList with
        | false =>
          have HWd := Lib.hid hw
          clear hw
          have HF : Hid (partE s.data.toList = false) := Lib.hid (by rw [HEn.out, ← HA.out, HD.out, HWd.out]; rfl)
          go_wp2_with fail
          refine (l2Word_b _ false _ (by omega) HWd.out).mono ?_
          rintro e w' ⟨rfl, rfl⟩
          go_wp2_with fail
          go_ret
          refine ⟨by rw [HF.out]; rfl, ?_⟩
          obtain ⟨q, rfl⟩ := HW.out
          exact ⟨b1.os, b1.tape, b1.output, b1.size, b1.block⟩
        | true =>
          have HWd := Lib.hid hw
          clear hw
          go_wp2_with fail
          refine (l2Word_b _ true _ (by omega) HWd.out).mono ?_
          rintro e w' ⟨rfl, rfl⟩
          go_wp2_with fail
          go_loop [5] (fun i => ∃ j : Nat, j ≤ x.size ∧ i = .int .i64 j ∧ Hid ((x.data.toList.drop j).all isLo = x.data.toList.all isLo)) (fun i => x.size - (intOf i).toNat)
          case atStart => exact ⟨0, Nat.zero_le _, rfl, Lib.hid rfl⟩
          case round =>
            obtain ⟨j, hj, rfl, HJ⟩ := hrel
            by_cases hjx : j < x.size
            · have HDj := Lib.hid (all_drop x j hjx)
              cases hl : isLo x[j] with
              | true =>
                have HLo := Lib.hid hl
                clear hl
                go_wp2_with fail
                refine (lo_s _ true _ HLo.out).mono ?_
                rintro e w' ⟨rfl, rfl⟩
                go_wp2_with fail
                go_round
                case rel => exact ⟨j + 1, by omega, by go_num, Lib.hid (by rw [← HJ.out, HDj.out, HLo.out]; rfl)⟩
                case measure => simp [intOf]; omega
              | false =>
                have HLo := Lib.hid hl
                clear hl
                have HF : Hid (partE s.data.toList = false) := Lib.hid (by rw [HEn.out, ← HA.out, HD.out, ← HJ.out, HDj.out, HLo.out]; simp)
                go_wp2_with fail
                refine (lo_s _ false _ HLo.out).mono ?_
                rintro e w' ⟨rfl, rfl⟩
                go_wp2_with fail
                go_ret
                refine ⟨by rw [HF.out]; rfl, ?_⟩
                obtain ⟨q, rfl⟩ := HW.out
                exact ⟨b1.os, b1.tape, b1.output, b1.size, b1.block⟩
            · have HT : Hid (lows (L.drop (k + 1)) = lows L) := Lib.hid (by rw [← HA.out, HD.out, HWd.out, ← HJ.out, drop_all x j (by omega)]; rfl)
              go_wp2_with fail
              go_roundw
              case rel => exact ⟨k + 1, by omega, by go_num, HT, HW⟩
              case measure => simp [intOf]; omega
      · have HX : Hid (partE s.data.toList = decide (n ≤ 2)) := Lib.hid (by rw [HEn.out, ← HA.out, List.drop_eq_nil_of_le (by rw [← HN.out]; omega)]; rfl)
        go_wp2_with fail
        go_ret
        refine ⟨ret_bool (by rw [HX.out]; rw [Bool.eq_iff_iff]; simp; omega), ?_⟩
        obtain ⟨q, rfl⟩ := HW.out
        exact ⟨b1.os, b1.tape, b1.output, b1.size, b1.block⟩
theorem l2Part_b (s : ByteArray) (r : Bool) (w : World) (hs : s.size ≤ 1048576) (hr : partE s.data.toList = r) :
    Calls Tryz.prog 111 #[.string s] w fun e w' => e = .returned (.bool r) ∧ Below w.heap.size w w' := by
  subst hr; exact l2Part s w hs
end Go.Proofs.YteccmlpibbchbaaGreatDoor.Part
