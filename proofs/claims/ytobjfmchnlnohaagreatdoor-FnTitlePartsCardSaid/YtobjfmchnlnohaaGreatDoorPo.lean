/-
  Contracts of ProtectTitle of the program and of the model.
-/
import Derived.Test.YtobjfmchnlnohaaGreatDoorBh
import Derived.Test.YtobjfmchnlnohaaGreatDoorTw
import Derived.Test.YtobjfmchnlnohaaGreatDoorLw
import Derived.Test.YtobjfmchnlnohaaGreatDoorTi
import Derived.Test.YtobjfmchnlnohaaGreatDoorJo
import Derived.Deep.AppendLies
import Derived.Lib.IndexMore
namespace Go.Proofs.YtobjfmchnlnohaaGreatDoor.Po
open Go.RowKit Pl NmPl TiPl Word Jo Cs Ti Kt Br Bh
set_option linter.unusedVariables false
set_option linter.unusedSimpArgs false

/-- a word put between braces where it is the given one -/
def pw (u x : List UInt8) : List UInt8 := if x = u then 123 :: (x ++ [125]) else x
def half (u : List UInt8) (W : List (List UInt8)) (k : Nat) : List (List UInt8) := (W.take k).map (pw u) ++ W.drop k
theorem half_zero (u : List UInt8) (W : List (List UInt8)) : half u W 0 = W := by simp [half]
theorem half_len (u : List UInt8) (W : List (List UInt8)) (k : Nat) : (half u W k).length = W.length := by simp [half]; omega
theorem half_all (u : List UInt8) (W : List (List UInt8)) (k : Nat) (h : W.length ≤ k) : half u W k = W.map (pw u) := by
  unfold half
  rw [List.take_of_length_le h, List.drop_of_length_le h, List.append_nil]
theorem half_at (u : List UInt8) (W : List (List UInt8)) (k : Nat) (h : k < W.length) : (half u W k)[k]? = some W[k] := by
  unfold half
  rw [List.getElem?_append_right (by simp; omega)]
  simp [Nat.min_eq_left (Nat.le_of_lt h)]
theorem half_succ (u : List UInt8) (W : List (List UInt8)) (k : Nat) (h : k < W.length) : half u W (k + 1) = (half u W k).set k (pw u W[k]) := by
  unfold half
  rw [List.set_append_right _ _ (by simp; omega), List.take_succ_eq_append_getElem h, List.map_append]
  have e : k - ((W.take k).map (pw u)).length = 0 := by simp; omega
  rw [e, List.drop_eq_getElem_cons h, List.set_cons_zero, List.append_assoc]
  rfl
theorem half_same (u : List UInt8) (W : List (List UInt8)) (k : Nat) (h : k < W.length) (hne : W[k] ≠ u) : half u W (k + 1) = half u W k := by
  rw [half_succ u W k h]
  have : pw u W[k] = W[k] := by unfold pw; rw [if_neg hne]
  rw [this]
  apply List.ext_getElem?
  intro j
  rw [List.getElem?_set]
  split
  · rename_i e
    subst e
    have := half_at u W k h
    split
    · exact this.symm
    · rename_i h2
      exact absurd (by rw [half_len]; exact h) h2
  · rfl
theorem cs_set (l : List (List UInt8)) (k : Nat) (x : List UInt8) : cs (l.set k x) = (cs l).set k (.string (ba x)) := by
  unfold cs
  rw [List.map_set]
theorem pw_len (u x : List UInt8) : (pw u x).length ≤ x.length + 2 := by
  unfold pw
  split
  · simp
  · omega
theorem pw_off (u : List UInt8) (W : List (List UInt8)) : off (W.map (pw u)) ≤ off W + 2 * W.length := by
  induction W with
  | nil => simp [off]
  | cons x r ih =>
    rw [List.map_cons, off_cons, off_cons, List.length_cons]
    have := pw_len u x
    omega
/-- a word that ProtectTitle takes -/
def okU (u : List UInt8) : Bool := !u.isEmpty && (!(decide (0 ≤ Lib.indexByte u 32)) && !(brB u))
def prJ (s u : List UInt8) : List UInt8 := jL ((words s).map (pw u))
def prV (s u : ByteArray) : Value :=
  if okT s.data.toList = true ∧ okU u.data.toList = true ∧ okT (prJ s.data.toList u.data.toList) = true then .tuple #[.string (ba (prJ s.data.toList u.data.toList)), .bool true] else .tuple #[.string ⟨#[]⟩, .bool false]
theorem prV_form (s u : ByteArray) : ∃ t r, prV s u = .tuple #[.string t, .bool r] := by unfold prV; split <;> exact ⟨_, _, rfl⟩
theorem prV_no {s u : ByteArray} (h : ¬ (okT s.data.toList = true ∧ okU u.data.toList = true ∧ okT (prJ s.data.toList u.data.toList) = true)) : prV s u = .tuple #[.string ⟨#[]⟩, .bool false] := by
  unfold prV; rw [if_neg h]
theorem emp_false {u : ByteArray} (h : 0 < u.size) : u.toList.isEmpty = false ∧ u.data.toList.isEmpty = false := by
  have hn : u.data.toList ≠ [] := fun e => by
    have := len_size u
    rw [e, List.length_nil] at this; omega
  exact ⟨by rw [Lib.toList_data]; exact List.isEmpty_eq_false_iff.2 hn, List.isEmpty_eq_false_iff.2 hn⟩
theorem ne_bytes {a b : ByteArray} (h : a ≠ b) : (a.toList == b.toList) = false := by
  rw [beq_eq_false_iff_ne, Lib.toList_data, Lib.toList_data]
  exact fun e => h (ByteArray.ext (Array.toList_inj.1 e))
theorem eq_bytes {a b : ByteArray} (h : a = b) : (a.toList == b.toList) = true := by rw [h]; simp
theorem words_pos (l : List UInt8) : 0 < (words l).length := by simp [words]
theorem ba_eq_iff (x : List UInt8) (u : ByteArray) : ba x = u ↔ x = u.data.toList := ⟨fun h => by rw [← h, toList_ba], fun h => by rw [h, ba_toList]⟩
theorem sp_at (u : ByteArray) : True := trivial
theorem sp_some (u : ByteArray) (h : decide (0 ≤ Lib.indexByte u.data.toList 32) = true) : ∃ j, ∃ h : j < u.size, (u[j]'h).toNat = 32 := by
  have := Lib.contains_iff_indexByte u.data.toList 32
  rw [h] at this
  obtain ⟨j, hj, e⟩ := List.getElem_of_mem (List.contains_iff_mem.1 this)
  refine ⟨j, by rw [← len_size]; exact hj, ?_⟩
  show (u.data[j]'_).toNat = 32
  rw [← Array.getElem_toList, e]
  rfl
theorem sp_none (u : ByteArray) (h : decide (0 ≤ Lib.indexByte u.data.toList 32) = false) : ∀ j, ∀ h : j < u.size, (u[j]'h).toNat ≠ 32 := by
  intro j hj e
  have := Lib.contains_iff_indexByte u.data.toList 32
  rw [h] at this
  have hm : (32 : UInt8) ∈ u.data.toList := by
    have h1 : u.data.toList[j]'(by rw [len_size]; exact hj) = u[j]'hj := by rw [Array.getElem_toList]; rfl
    have h2 : (u[j]'hj) = 32 := UInt8.toNat_inj.1 (by rw [e]; rfl)
    rw [← h2, ← h1]
    exact List.getElem_mem _
  rw [List.contains_iff_mem.2 hm] at this
  cases this

set_option maxRecDepth 100000 in
set_option maxHeartbeats 4000000 in
theorem prot_i (s u : ByteArray) (w : World) (hml : ML w) (hs : s.size ≤ 1048576) (hu : u.size ≤ 1048576) :
    Calls Tryz.prog 13 #[.string s, .string u] w fun e w' => e = .returned (prV s u) ∧ Below w.heap.size w w' := by
  have HM := Lib.hid hml
  clear hml
  have HV := Lib.hid (fun w (hm : ML w) (s : ByteArray) (hs : s.size ≤ 1048576) r hr => isValidT s r w hm hs hr)
  cases h1 : okT s.data.toList with
  | false =>
    have HE : Hid (prV s u = .tuple #[.string ⟨#[]⟩, .bool false]) := Lib.hid (prV_no (fun h => by rw [h1] at h; cases h.1))
    have H1 := Lib.hid h1
    clear h1
    go_enter Tryz.func13, Tryz.ntmps13
    go_wp2_with fail
    refine (HV.out _ HM.out s hs false H1.out).mono ?_
    rintro e w' ⟨rfl, rfl⟩
    go_wp2_with fail
    go_ret2
    exact ⟨by rw [HE.out]; rfl, Below.refl _ _⟩
  | true =>
    have H1 := Lib.hid h1
    by_cases hz : u.size = 0
    · obtain rfl : u = ⟨#[]⟩ := by
        apply ByteArray.ext
        exact Array.eq_empty_of_size_eq_zero hz
      have HE : Hid (prV s ⟨#[]⟩ = .tuple #[.string ⟨#[]⟩, .bool false]) := Lib.hid (prV_no (fun h => by have := h.2.1; revert this; decide))
      clear h1 hz
      go_enter Tryz.func13, Tryz.ntmps13
      go_wp2_with fail
      refine (HV.out _ HM.out s hs true H1.out).mono ?_
      rintro e w' ⟨rfl, rfl⟩
      go_wp2_with fail
      go_ret2
      exact ⟨by rw [HE.out]; rfl, Below.refl _ _⟩
    · obtain ⟨hemp, hemp2⟩ := emp_false (u := u) (by omega)
      cases hb : brB u.data.toList with
      | true =>
        have HB := Lib.hid hb
        have HE : Hid (prV s u = .tuple #[.string ⟨#[]⟩, .bool false]) := Lib.hid (prV_no (fun h => by have := h.2.1; unfold okU at this; rw [hb] at this; simp at this))
        cases hc : decide (0 ≤ Lib.indexByte u.data.toList 32) with
        | true =>
          have HC := Lib.hid (fun w => Tryz.strings_Contains_one u 32 w)
          rw [hc] at HC
          clear hb hc h1 hz
          go_enter Tryz.func13, Tryz.ntmps13
          go_wp2_with fail
          refine (HV.out _ HM.out s hs true H1.out).mono ?_
          rintro e w' ⟨rfl, rfl⟩
          go_wp2_with fail
          refine (HC.out _).mono ?_
          rintro e w' ⟨rfl, rfl⟩
          go_wp2_with fail
          go_ret2
          exact ⟨by rw [HE.out]; rfl, Below.refl _ _⟩
        | false =>
          have HC := Lib.hid (fun w => Tryz.strings_Contains_one u 32 w)
          rw [hc] at HC
          clear hb hc h1 hz
          go_enter Tryz.func13, Tryz.ntmps13
          go_wp2_with fail
          refine (HV.out _ HM.out s hs true H1.out).mono ?_
          rintro e w' ⟨rfl, rfl⟩
          go_wp2_with fail
          refine (HC.out _).mono ?_
          rintro e w1 ⟨rfl, hw1⟩
          rw [hw1]
          go_wp2_with fail
          refine (brace_all u true _ hu HB.out).mono ?_
          rintro e w2 ⟨rfl, b2⟩
          go_wp2_with fail
          go_ret2
          exact ⟨by rw [HE.out]; rfl, b2⟩
      | false =>
        have HB := Lib.hid hb
        cases hc : decide (0 ≤ Lib.indexByte u.data.toList 32) with
        | true =>
          have HE : Hid (prV s u = .tuple #[.string ⟨#[]⟩, .bool false]) := Lib.hid (prV_no (fun h => by have := h.2.1; unfold okU at this; rw [hc] at this; simp at this))
          have HC := Lib.hid (fun w => Tryz.strings_Contains_one u 32 w)
          rw [hc] at HC
          clear hb hc h1 hz
          go_enter Tryz.func13, Tryz.ntmps13
          go_wp2_with fail
          refine (HV.out _ HM.out s hs true H1.out).mono ?_
          rintro e w' ⟨rfl, rfl⟩
          go_wp2_with fail
          refine (HC.out _).mono ?_
          rintro e w' ⟨rfl, rfl⟩
          go_wp2_with fail
          go_ret2
          exact ⟨by rw [HE.out]; rfl, Below.refl _ _⟩
        | false =>
          have HC := Lib.hid (fun w => Tryz.strings_Contains_one u 32 w)
          rw [hc] at HC
          have HK : Hid (okU u.data.toList = true) := Lib.hid (by unfold okU; rw [hemp2, hc, hb]; rfl)
          clear hb hc hz
          have HW := Lib.hid (fun w => Tw.words_any s w hs)
          have HOff : Hid (off (words s.data.toList) ≤ 101) := Lib.hid (by rw [words_off]; have := okT_size h1; omega)
          have HLn : Hid ((words s.data.toList).length ≤ 101) := Lib.hid (by have := words_len s.data.toList; have := okT_size h1; omega)
          have HPos := Lib.hid (words_pos s.data.toList)
          have HE : Hid (prV s u = if okT (jL ((words s.data.toList).map (pw u.data.toList))) = true then .tuple #[.string (ba (jL ((words s.data.toList).map (pw u.data.toList)))), .bool true] else .tuple #[.string ⟨#[]⟩, .bool false]) := Lib.hid (by
            unfold prV prJ
            split
            · rename_i h; rw [if_pos h.2.2]
            · rename_i h; rw [if_neg (fun h2 => h ⟨H1.out, HK.out, h2⟩)])
          clear h1
          generalize words s.data.toList = W at *
          go_enter Tryz.func13, Tryz.ntmps13
          go_wp2_with fail
          refine (HV.out _ HM.out s hs true H1.out).mono ?_
          rintro e w' ⟨rfl, rfl⟩
          go_wp2_with fail
          refine (HC.out _).mono ?_
          rintro e w0 ⟨rfl, hw0⟩
          rw [hw0]
          clear hw0 w0
          go_wp2_with fail
          refine (brace_all u false _ hu HB.out).mono ?_
          rintro e w1 ⟨rfl, b1⟩
          go_wp2_with fail
          refine (HW.out _).mono ?_
          rintro e w2 ⟨v, rfl, ho, b2⟩
          obtain ⟨g, c, rfl⟩ : ∃ g c, v = .slice (some ⟨g, 0, none⟩) W.length c := by
            rcases own_cells ho with ⟨_, h⟩ | ⟨g, c, h, _⟩
            · have := HPos.out; rw [h] at this; exact absurd this (by decide)
            · exact ⟨g, c, h⟩
          have HNL := Lib.hid (rfl : W.length = W.length)
          obtain ⟨n, hn⟩ : ∃ n, n = W.length := ⟨_, rfl⟩
          have HN := Lib.hid hn
          have hnb : n ≤ 101 := by rw [hn]; exact HLn.out
          rw [← hn] at ho
          rw [← hn]
          clear hn HNL
          have HG := Lib.hid (ho.lt g rfl)
          have HO0 : Hid (w2.ownsRow w1.heap.size 9 1 (.slice (some ⟨g, 0, none⟩) n c) n (cs (half u.data.toList W 0))) := Lib.hid (by rw [half_zero]; exact ho)
          have HB2 := Lib.hid b2
          clear ho b2
          go_wp2_with fail
          go_loopw [28] (fun i wr => ∃ k : Nat, k ≤ n ∧ i = .int .i64 k ∧ Hid (wr.ownsRow w1.heap.size 9 1 (.slice (some ⟨g, 0, none⟩) n c) n (cs (half u.data.toList W k))) ∧ Hid (Below w1.heap.size w1 wr)) (fun i _ => n - (intOf i).toNat)
          case atStart => exact ⟨0, Nat.zero_le _, rfl, HO0, HB2⟩
          case round =>
            obtain ⟨k, hk, rfl, HO, HBr⟩ := hrel
            by_cases hlt : k < n
            · have hkW : k < W.length := by rw [← HN.out]; exact hlt
              have hcl : wr.cell? ⟨g, k, none⟩ = some (.string (ba W[k])) := by
                rw [World.ownsRow.cellAt HO.out k (by omega), cs, List.getElem?_map, half_at _ _ _ hkW]
                rfl
              have hfz := World.ownsRow.frozenAt HO.out k
              have hsz : u.size + 2 ≤ 1048578 := by omega
              by_cases hx : ba W[k] = u
              · have hq := eq_bytes hx
                have HS : Hid (half u.data.toList W (k + 1) = (half u.data.toList W k).set k (123 :: (u.data.toList ++ [125]))) := Lib.hid (by
                  rw [half_succ _ _ _ hkW]
                  have e : W[k] = u.data.toList := (ba_eq_iff _ _).1 hx
                  unfold pw
                  rw [if_pos e, e])
                have HT := Lib.hid (HO.out.stored k (.string (ba (123 :: (u.data.toList ++ [125])))))
                clear hx
                generalize ba W[k] = X at *
                clear hkW
                have hsz1 : (ByteArray.mk #[123]).size = 1 := rfl
                have hsz2 : (ByteArray.mk #[125]).size = 1 := rfl
                have hcat : (ByteArray.mk #[123] ++ u ++ ByteArray.mk #[125]) = ba (123 :: (u.data.toList ++ [125])) := by
                  apply ByteArray.ext; simp [ba]
                have HCat := Lib.hid hcat
                clear hcat
                go_wp2_with fail
                rw [HCat.out]
                refine ⟨⟨k + 1, by omega, by go_num, Lib.hid ?_, Lib.hid ?_⟩, ?_⟩
                · rw [HS.out, cs_set]; exact HT.out.1
                · exact HBr.out.grown HT.out.2 HBr.out.size (fun q hq => by cases hq; exact HG.out.1)
                · simp [intOf]; omega
              · have hq := ne_bytes hx
                have HS := Lib.hid (half_same u.data.toList W k hkW (fun e => hx ((ba_eq_iff _ _).2 e)))
                clear hx
                generalize ba W[k] = X at *
                clear hkW
                go_wp2_with fail
                go_roundw
                case rel => exact ⟨k + 1, by omega, by go_num, Lib.hid (by rw [HS.out]; exact HO.out), HBr⟩
                case measure => simp [intOf]; omega
            · obtain rfl : k = n := by omega
              have ho := HO.out
              rw [half_all _ _ _ (by rw [← HN.out]; exact Nat.le_refl _)] at ho
              have hJl : (W.map (pw u.data.toList)).length = k := by rw [List.length_map, ← HN.out]
              have hoff : off (W.map (pw u.data.toList)) ≤ 303 := by
                have h1 := pw_off u.data.toList W
                have h2 := HOff.out
                have h3 := HLn.out
                omega
              generalize W.map (pw u.data.toList) = J at *
              have hr : Rd wr (some ⟨g, 0, none⟩) J := fun j x hx => ⟨g, 0, rfl, by
                have hj : j < J.length := (List.getElem?_eq_some_iff.1 hx).1
                rw [Nat.zero_add, World.ownsRow.cellAt ho j (by omega), cs, List.getElem?_map, hx]
                rfl⟩
              have hA : ∀ a, (some ⟨g, 0, none⟩ : Option Addr) = some a → a.block < wr.heap.size := fun a e => by cases e; exact (ho.lt g rfl).2
              have hcn : k ≤ c := by
                rcases ho.2 with ⟨h, _⟩ | ⟨g', cap, cur, h, _, _, h4, _⟩
                · cases h
                · cases h; exact h4
              have hjn : (ba (jL J)).size ≤ 1048576 := by rw [ba_size]; have := jL_len J; omega
              have HJn := Lib.hid (join_any _ c k J wr hr hA hJl hcn (by omega))
              have kb := b1.trans (HBr.out.mono b1.size)
              clear hr hA hcn ho hoff hJl HO HBr
              go_wp2_with fail
              with_reducible refine HJn.out.mono ?_
              rintro e w5 ⟨rfl, b5⟩
              have k5 := kb.trans (b5.mono kb.size)
              have HM5 := Lib.hid (HM.out.below k5)
              clear HJn
              go_wp2_with fail
              have ht : (ba (jL J)).data.toList = jL J := toList_ba _
              cases hj : okT (jL J) with
              | false =>
                rw [hj] at HE
                have hj' : okT (ba (jL J)).data.toList = false := by rw [ht]; exact hj
                clear hj ht
                generalize ba (jL J) = T at *
                refine (HV.out _ HM5.out T hjn false hj').mono ?_
                rintro e w6 ⟨rfl, rfl⟩
                go_wp2_with fail
                go_ret2
                exact ⟨by rw [HE.out]; rfl, k5⟩
              | true =>
                rw [hj] at HE
                have hj' : okT (ba (jL J)).data.toList = true := by rw [ht]; exact hj
                clear hj ht
                generalize ba (jL J) = T at *
                refine (HV.out _ HM5.out T hjn true hj').mono ?_
                rintro e w6 ⟨rfl, rfl⟩
                go_wp2_with fail
                go_ret2
                exact ⟨by rw [HE.out]; rfl, k5⟩

set_option maxRecDepth 100000 in
set_option maxHeartbeats 4000000 in
theorem prot_s (s u : ByteArray) (w : World) (hs : s.size ≤ 1048576) (hu : u.size ≤ 1048576) :
    Calls Tryz.prog 14 #[.string s, .string u] w fun e w' => e = .returned (prV s u) ∧ Below w.heap.size w w' := by
  have HV := Lib.hid (fun w (s : ByteArray) (hs : s.size ≤ 1048576) r hr => l6Good_any s r w hs hr)
  cases h1 : okT s.data.toList with
  | false =>
    have HE : Hid (prV s u = .tuple #[.string ⟨#[]⟩, .bool false]) := Lib.hid (prV_no (fun h => by rw [h1] at h; cases h.1))
    have H1 := Lib.hid h1
    clear h1
    go_enter Tryz.func14, Tryz.ntmps14
    go_wp2_with fail
    refine (HV.out _ s hs false H1.out).mono ?_
    rintro e w' ⟨rfl, rfl⟩
    go_wp2_with fail
    go_ret2
    exact ⟨by rw [HE.out]; rfl, Below.refl _ _⟩
  | true =>
    have H1 := Lib.hid h1
    by_cases hz : u.size = 0
    · obtain rfl : u = ⟨#[]⟩ := by
        apply ByteArray.ext
        exact Array.eq_empty_of_size_eq_zero hz
      have HE : Hid (prV s ⟨#[]⟩ = .tuple #[.string ⟨#[]⟩, .bool false]) := Lib.hid (prV_no (fun h => by have := h.2.1; revert this; decide))
      clear h1 hz
      go_enter Tryz.func14, Tryz.ntmps14
      go_wp2_with fail
      refine (HV.out _ s hs true H1.out).mono ?_
      rintro e w' ⟨rfl, rfl⟩
      go_wp2_with fail
      go_ret2
      exact ⟨by rw [HE.out]; rfl, Below.refl _ _⟩
    · obtain ⟨hemp, hemp2⟩ := emp_false (u := u) (by omega)
      cases hb : brB u.data.toList with
      | true =>
        have HB := Lib.hid hb
        have HE : Hid (prV s u = .tuple #[.string ⟨#[]⟩, .bool false]) := Lib.hid (prV_no (fun h => by have := h.2.1; unfold okU at this; rw [hb] at this; simp at this))
        clear hb h1 hz
        go_enter Tryz.func14, Tryz.ntmps14
        go_wp2_with fail
        refine (HV.out _ s hs true H1.out).mono ?_
        rintro e w' ⟨rfl, rfl⟩
        go_wp2_with fail
        refine (brace_s u true _ hu HB.out).mono ?_
        rintro e w' ⟨rfl, rfl⟩
        go_wp2_with fail
        go_ret2
        exact ⟨by rw [HE.out]; rfl, Below.refl _ _⟩
      | false =>
        have HB := Lib.hid hb
        have HSp := Lib.hid (sp_at u)
        cases hc : decide (0 ≤ Lib.indexByte u.data.toList 32) with
        | true =>
          have HE : Hid (prV s u = .tuple #[.string ⟨#[]⟩, .bool false]) := Lib.hid (prV_no (fun h => by have := h.2.1; unfold okU at this; rw [hc] at this; simp at this))
          have HC := Lib.hid (sp_some u hc)
          clear hb hc h1 hz
          go_enter Tryz.func14, Tryz.ntmps14
          go_wp2_with fail
          refine (HV.out _ s hs true H1.out).mono ?_
          rintro e w' ⟨rfl, rfl⟩
          go_wp2_with fail
          refine (brace_s u false _ hu HB.out).mono ?_
          rintro e w' ⟨rfl, rfl⟩
          go_wp2_with fail
          go_loop [6] (fun i => ∃ k : Nat, k ≤ u.size ∧ i = .int .i64 k ∧ Hid (∃ j, ∃ h : j < u.size, k ≤ j ∧ (u[j]'h).toNat = 32)) (fun i => u.size - (intOf i).toNat)
          case atStart => exact ⟨0, Nat.zero_le _, rfl, Lib.hid (by obtain ⟨j, h, e⟩ := HC.out; exact ⟨j, h, Nat.zero_le _, e⟩)⟩
          case round =>
            obtain ⟨k, hk, rfl, HJ⟩ := hrel
            have hlt : k < u.size := by obtain ⟨j, h, h2, _⟩ := HJ.out; omega
            by_cases he : (u[k]'hlt).toNat = 32
            · have hb1 : (((u[k]'hlt).toNat : Int) == 32) = true := by simp [he]
              clear he
              go_wp2_with fail
              go_ret2
              exact ⟨by rw [HE.out]; rfl, Below.refl _ _⟩
            · have hb1 : (((u[k]'hlt).toNat : Int) == 32) = false := by simp; omega
              have HJ' : Hid (∃ j, ∃ h : j < u.size, k + 1 ≤ j ∧ (u[j]'h).toNat = 32) := Lib.hid (by
                obtain ⟨j, h, h2, h3⟩ := HJ.out
                refine ⟨j, h, ?_, h3⟩
                rcases Nat.lt_or_ge k j with h4 | h4
                · exact h4
                · obtain rfl : j = k := by omega
                  exact absurd h3 he)
              clear he
              go_wp2_with fail
              go_round
              case rel => exact ⟨k + 1, by omega, by go_num, HJ'⟩
              case measure => simp [intOf]; omega
        | false =>
          have HC := Lib.hid (sp_none u hc)
          have HK : Hid (okU u.data.toList = true) := Lib.hid (by unfold okU; rw [hemp2, hc, hb]; rfl)
          clear hb hc hz
          have HW := Lib.hid (fun w => Lw.l6Words_any s w hs)
          have HOff : Hid (off (words s.data.toList) ≤ 101) := Lib.hid (by rw [words_off]; have := okT_size h1; omega)
          have HLn : Hid ((words s.data.toList).length ≤ 101) := Lib.hid (by have := words_len s.data.toList; have := okT_size h1; omega)
          have HPos := Lib.hid (words_pos s.data.toList)
          have HE : Hid (prV s u = if okT (jL ((words s.data.toList).map (pw u.data.toList))) = true then .tuple #[.string (ba (jL ((words s.data.toList).map (pw u.data.toList)))), .bool true] else .tuple #[.string ⟨#[]⟩, .bool false]) := Lib.hid (by
            unfold prV prJ
            split
            · rename_i h; rw [if_pos h.2.2]
            · rename_i h; rw [if_neg (fun h2 => h ⟨H1.out, HK.out, h2⟩)])
          clear h1
          generalize words s.data.toList = W at *
          go_enter Tryz.func14, Tryz.ntmps14
          go_wp2_with fail
          refine (HV.out _ s hs true H1.out).mono ?_
          rintro e w' ⟨rfl, rfl⟩
          go_wp2_with fail
          refine (brace_s u false _ hu HB.out).mono ?_
          rintro e w1 ⟨rfl, hw1⟩
          have b1 : Below w.heap.size w w1 := hw1 ▸ Below.refl _ _
          clear hw1
          go_wp2_with fail
          go_loop [6] (fun i => ∃ k : Nat, k ≤ u.size ∧ i = .int .i64 k) (fun i => u.size - (intOf i).toNat)
          case atStart => exact ⟨0, Nat.zero_le _, rfl⟩
          case round =>
            obtain ⟨k, hk, rfl⟩ := hrel
            by_cases hlt : k < u.size
            · have hne := HC.out k hlt
              have hb1 : (((u[k]'hlt).toNat : Int) == 32) = false := by simp; omega
              clear hne
              go_wp2_with fail
              go_round
              case rel => exact ⟨k + 1, by omega, by go_num⟩
              case measure => simp [intOf]; omega
            · go_wp2_with fail
              refine (HW.out _).mono ?_
              rintro e w2 ⟨v, rfl, ho, b2⟩
              obtain ⟨g, c, rfl⟩ : ∃ g c, v = .slice (some ⟨g, 0, none⟩) W.length c := by
                rcases own_cells ho with ⟨_, h⟩ | ⟨g, c, h, _⟩
                · have := HPos.out; rw [h] at this; exact absurd this (by decide)
                · exact ⟨g, c, h⟩
              have HNL := Lib.hid (rfl : W.length = W.length)
              obtain ⟨n, hn⟩ : ∃ n, n = W.length := ⟨_, rfl⟩
              have HN := Lib.hid hn
              have hnb : n ≤ 101 := by rw [hn]; exact HLn.out
              rw [← hn] at ho
              rw [← hn]
              clear hn HNL
              have HG := Lib.hid (ho.lt g rfl)
              have HO0 : Hid (w2.ownsRow w1.heap.size 9 1 (.slice (some ⟨g, 0, none⟩) n c) n (cs (half u.data.toList W 0))) := Lib.hid (by rw [half_zero]; exact ho)
              have HB2 := Lib.hid b2
              clear ho b2
              go_wp2_with fail
              go_loopw [8] (fun i wr => ∃ k : Nat, k ≤ n ∧ i = .int .i64 k ∧ Hid (wr.ownsRow w1.heap.size 9 1 (.slice (some ⟨g, 0, none⟩) n c) n (cs (half u.data.toList W k))) ∧ Hid (Below w1.heap.size w1 wr)) (fun i _ => n - (intOf i).toNat)
              case atStart => exact ⟨0, Nat.zero_le _, rfl, HO0, HB2⟩
              case round =>
                obtain ⟨k, hk, rfl, HO, HBr⟩ := hrel
                by_cases hlt : k < n
                · have hkW : k < W.length := by rw [← HN.out]; exact hlt
                  have hcl : wr.cell? ⟨g, k, none⟩ = some (.string (ba W[k])) := by
                    rw [World.ownsRow.cellAt HO.out k (by omega), cs, List.getElem?_map, half_at _ _ _ hkW]
                    rfl
                  have hfz := World.ownsRow.frozenAt HO.out k
                  have hsz : u.size + 2 ≤ 1048578 := by omega
                  by_cases hx : ba W[k] = u
                  · have hq := eq_bytes hx
                    have HS : Hid (half u.data.toList W (k + 1) = (half u.data.toList W k).set k (123 :: (u.data.toList ++ [125]))) := Lib.hid (by
                      rw [half_succ _ _ _ hkW]
                      have e : W[k] = u.data.toList := (ba_eq_iff _ _).1 hx
                      unfold pw
                      rw [if_pos e, e])
                    have HT := Lib.hid (HO.out.stored k (.string (ba (123 :: (u.data.toList ++ [125])))))
                    clear hx
                    generalize ba W[k] = X at *
                    clear hkW
                    have hsz1 : (ByteArray.mk #[123]).size = 1 := rfl
                    have hsz2 : (ByteArray.mk #[125]).size = 1 := rfl
                    have hcat : (ByteArray.mk #[123] ++ u ++ ByteArray.mk #[125]) = ba (123 :: (u.data.toList ++ [125])) := by
                      apply ByteArray.ext; simp [ba]
                    have HCat := Lib.hid hcat
                    clear hcat
                    go_wp2_with fail
                    rw [HCat.out]
                    refine ⟨⟨k + 1, by omega, by go_num, Lib.hid ?_, Lib.hid ?_⟩, ?_⟩
                    · rw [HS.out, cs_set]; exact HT.out.1
                    · exact HBr.out.grown HT.out.2 HBr.out.size (fun q hq => by cases hq; exact HG.out.1)
                    · simp [intOf]; omega
                  · have hq := ne_bytes hx
                    have HS := Lib.hid (half_same u.data.toList W k hkW (fun e => hx ((ba_eq_iff _ _).2 e)))
                    clear hx
                    generalize ba W[k] = X at *
                    clear hkW
                    go_wp2_with fail
                    go_roundw
                    case rel => exact ⟨k + 1, by omega, by go_num, Lib.hid (by rw [HS.out]; exact HO.out), HBr⟩
                    case measure => simp [intOf]; omega
                · obtain rfl : k = n := by omega
                  have ho := HO.out
                  rw [half_all _ _ _ (by rw [← HN.out]; exact Nat.le_refl _)] at ho
                  have hJl : (W.map (pw u.data.toList)).length = k := by rw [List.length_map, ← HN.out]
                  have hoff : off (W.map (pw u.data.toList)) ≤ 303 := by
                    have h1 := pw_off u.data.toList W
                    have h2 := HOff.out
                    have h3 := HLn.out
                    omega
                  generalize W.map (pw u.data.toList) = J at *
                  have hr : Rd wr (some ⟨g, 0, none⟩) J := fun j x hx => ⟨g, 0, rfl, by
                    have hj : j < J.length := (List.getElem?_eq_some_iff.1 hx).1
                    rw [Nat.zero_add, World.ownsRow.cellAt ho j (by omega), cs, List.getElem?_map, hx]
                    rfl⟩
                  have hA : ∀ a, (some ⟨g, 0, none⟩ : Option Addr) = some a → a.block < wr.heap.size := fun a e => by cases e; exact (ho.lt g rfl).2
                  have hcn : k ≤ c := by
                    rcases ho.2 with ⟨h, _⟩ | ⟨g', cap, cur, h, _, _, h4, _⟩
                    · cases h
                    · cases h; exact h4
                  have hjn : (ba (jL J)).size ≤ 1048576 := by rw [ba_size]; have := jL_len J; omega
                  have HJn := Lib.hid (l6Join_any _ c k J wr hr hJl (by omega))
                  have kb := b1.trans (HBr.out.mono b1.size)
                  clear hr hA hcn ho hoff hJl HO HBr
                  go_wp2_with fail
                  with_reducible refine HJn.out.mono ?_
                  rintro e w5 ⟨rfl, rfl⟩
                  have k5 := kb
                  clear HJn
                  go_wp2_with fail
                  have ht : (ba (jL J)).data.toList = jL J := toList_ba _
                  cases hj : okT (jL J) with
                  | false =>
                    rw [hj] at HE
                    have hj' : okT (ba (jL J)).data.toList = false := by rw [ht]; exact hj
                    clear hj ht
                    generalize ba (jL J) = T at *
                    refine (HV.out _ T hjn false hj').mono ?_
                    rintro e w6 ⟨rfl, rfl⟩
                    go_wp2_with fail
                    go_ret2
                    exact ⟨by rw [HE.out]; rfl, k5⟩
                  | true =>
                    rw [hj] at HE
                    have hj' : okT (ba (jL J)).data.toList = true := by rw [ht]; exact hj
                    clear hj ht
                    generalize ba (jL J) = T at *
                    refine (HV.out _ T hjn true hj').mono ?_
                    rintro e w6 ⟨rfl, rfl⟩
                    go_wp2_with fail
                    go_ret2
                    exact ⟨by rw [HE.out]; rfl, k5⟩
end Go.Proofs.YtobjfmchnlnohaaGreatDoor.Po
