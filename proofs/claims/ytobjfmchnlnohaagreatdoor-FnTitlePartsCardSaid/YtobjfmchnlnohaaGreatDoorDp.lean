/-
  Contract of the drawing function DrawProtectTitle.
-/
import Derived.Test.YtobjfmchnlnohaaGreatDoorDw2
import Derived.Test.YtobjfmchnlnohaaGreatDoorWt
import Derived.Test.YtobjfmchnlnohaaGreatDoorStrs
namespace Go.Proofs.YtobjfmchnlnohaaGreatDoor.Dw
open Go.RowKit Pl NmPl TiPl Kt Ti Cs Cur Draw0 Jo
set_option linter.unusedSimpArgs false
set_option linter.unusedVariables false

theorem cur_below {w w' : World} {g n c k : Nat} {A : Option Addr} {s : Int} (h : IsCur w g A n c k s) (hb : Below w.heap.size w w') : IsCur w' g A n c k s := (hb.block g h.lt).trans h
theorem apart_le {A : Option Addr} {n g g' : Nat} (h : Apart A n g) (hg : g ≤ g') : Apart A n g' := fun h0 a ha => Nat.lt_of_lt_of_le (h h0 a ha) hg
theorem words_pos (l : List UInt8) : 0 < (words l).length := by simp [words]
theorem word_size (l : List UInt8) : ∀ x ∈ words l, x.length ≤ l.length := by
  intro x hx
  have h := words_off l
  have : ∀ W : List (List UInt8), x ∈ W → x.length + 1 ≤ off W := by
    intro W
    induction W with
    | nil => intro h; cases h
    | cons y r ih =>
      intro h
      rw [off_cons]
      rcases List.mem_cons.1 h with rfl | h
      · omega
      · have := ih h; omega
  have := this _ hx
  omega
/-- two strings of at most 200 bytes -/
def TwoStr (w : World) (e : Ending) (w' : World) : Prop := ∃ x y : ByteArray, x.size ≤ 200 ∧ y.size ≤ 200 ∧ e = .returned (.tuple #[.string x, .string y]) ∧ Below w.heap.size w w'
set_option maxHeartbeats 4000000 in
theorem drawProt_any (A : Option Addr) (n c : Nat) (w : World) (hn : n ≤ 65536) (hr : RdB w A n) (ha : Apart A n w.heap.size) (hm : ML w) :
    Calls Tryz.prog 5 #[.slice A n c] w (TwoStr w) := by
  have HR := Lib.hid (rdb_new hr ha (.cells #[.slice A n c, .int .i64 0, .int .u64 0] 39))
  have HA := Lib.hid ha
  have HC := Lib.hid (cur_new w A n c)
  have HM := Lib.hid hm
  have HR0 := Lib.hid hr
  clear hr ha hm
  go_enter Tryz.func5, Tryz.ntmps5
  go_wp2_with fail
  refine (title_any w.heap.size A n c 0 0 _ (by omega) (by omega) HC.out HR.out HA.out).mono ?_
  rintro e w1 ⟨x, hx, rfl, ⟨k1, s1, hk1, hc1⟩, hg1⟩
  have b1 := below_new hg1
  have HW := Lib.hid (Wt.specWords x (by omega) w1 (HM.out.below b1))
  have HL := Lib.hid (show ∀ y ∈ Wt.answer x.data.toList, y.size ≤ 200 by
    intro y hy
    unfold Wt.answer at hy
    split at hy
    · obtain ⟨z, hz, rfl⟩ := List.mem_map.1 hy
      have := word_size _ z hz
      rw [ba_size]
      rw [len_size] at this
      omega
    · cases hy)
  have HP : Hid (okT x.data.toList = true → 1 ≤ (Wt.answer x.data.toList).length) := Lib.hid (fun h => by
    unfold Wt.answer; rw [if_pos h, List.length_map]; exact words_pos _)
  have hlen : (Wt.answer x.data.toList).length ≤ 1000 := by
    unfold Wt.answer
    split
    · rw [List.length_map]; have := words_len x.data.toList; rw [len_size] at this; omega
    · simp
  have hlt := hc1.lt
  generalize Wt.answer x.data.toList = ws at *
  obtain ⟨nw, hnw⟩ : ∃ nw, ws.length = nw := ⟨_, rfl⟩
  have HN := Lib.hid hnw.symm
  rw [hnw] at hlen HP
  generalize okT x.data.toList = ok at *
  have HC1 := Lib.hid hc1
  have HB1 := Lib.hid b1
  have HG1 := Lib.hid hg1
  clear HC HR hc1 b1 hg1
  go_wp2_with fail
  refine HW.out.mono ?_
  rintro e w2 ⟨v, rfl, ho, b2⟩
  have HB2 := Lib.hid (HB1.out.trans (b2.mono HB1.out.size))
  have HC2 := Lib.hid (cur_below HC1.out b2)
  have HR2 := Lib.hid (rdb_below HR0.out HA.out HB2.out)
  rw [hnw] at ho
  obtain ⟨Av, cv, rfl, hnv, hrd, hbl⟩ := Strs.own_rds ho
  have HRd := Lib.hid hrd
  have hz2 := b2.size
  have Hap : Hid (∀ g o, Av = some ⟨g, o, none⟩ → 0 < ws.length → g ≠ w.heap.size) := Lib.hid (fun g o e h0 => by
    rcases ho.2 with ⟨h9, h8⟩ | ⟨g', cap, cur, h9, h7, _⟩
    · have := HN.out; omega
    · rw [e] at h9; cases h9; omega)
  have HG2 := Lib.hid (Strs.grown_below HG1.out b2)
  clear ho hrd hbl b2 HW HC1 HB1 HG1
  cases ok with
  | false =>
    clear HP
    go_wp2_with fail
    refine (of_any (fun x => x.size ≤ 200) _ _ 5 [⟨#[82, 111, 109, 101]⟩, ⟨#[]⟩, ⟨#[97, 32, 98]⟩, ⟨#[123, 120, 125]⟩, ⟨#[111, 102]⟩] (by decide) rfl (by omega) (by omega) w.heap.size (Nat.ne_of_gt HC2.out.lt) A n c k1 s1 _ (by omega) (by omega) (HC2.out.alloc _) (HR2.out.alloc HA.out HC2.out.lt _) HA.out (Txt.lit rfl)).mono ?_
    rintro e w3 ⟨y, hy, rfl, hl⟩
    have HB3 := Lib.hid (below_new (Cur.grown_trans HG2.out hl.alloc.2))
    clear hl
    go_wp2_with fail
    go_ret2
    exact ⟨x, y, hx, hy, rfl, HB3.out⟩
  | true =>
    have hp := HP.out rfl
    clear HP
    go_wp2_with fail
    refine (one_any 4 (by omega) (by omega) w.heap.size A n c k1 s1 _ (by omega) (by omega) HC2.out HR2.out HA.out).mono ?_
    rintro e w3 ⟨r, rfl, ⟨k3, s3, hk3, hc3⟩, hg3⟩
    have HG3 := Lib.hid (Cur.grown_trans HG2.out hg3)
    have HR3 := Lib.hid (HR2.out.grown HA.out hg3)
    have HC3 := Lib.hid hc3
    have HF3 := Lib.hid hg3
    clear hc3 hg3
    cases r with
    | true =>
      go_wp2_with fail
      refine (of_any (fun x => x.size ≤ 200) _ _ 5 [⟨#[82, 111, 109, 101]⟩, ⟨#[]⟩, ⟨#[97, 32, 98]⟩, ⟨#[123, 120, 125]⟩, ⟨#[111, 102]⟩] (by decide) rfl (by omega) (by omega) w.heap.size (Nat.ne_of_gt HC3.out.lt) A n c k3 s3 _ (by omega) (by omega) (HC3.out.alloc _) (HR3.out.alloc HA.out HC3.out.lt _) HA.out (Txt.lit rfl)).mono ?_
      rintro e w4 ⟨y, hy, rfl, hl⟩
      have HB4 := Lib.hid (below_new (Cur.grown_trans HG3.out hl.alloc.2))
      clear hl
      go_wp2_with fail
      go_ret2
      exact ⟨x, y, hx, hy, rfl, HB4.out⟩
    | false =>
      have HPk : Hid (Calls Tryz.prog 19 #[.pointer (some ⟨w.heap.size, 0, none⟩), .int .i64 nw] w3.drew fun e w' => ∃ (j : Nat) (g o : Nat) (y : ByteArray), e = .returned (.int .i64 j) ∧ j < nw ∧ Av = some ⟨g, o, none⟩ ∧ w'.cell? ⟨g, o + j, none⟩ = some (.string y) ∧ y.size ≤ 200 ∧ Below w.heap.size w w') := Lib.hid (by
        refine (pick_any nw hp (by omega) w.heap.size A n c k3 s3 w3.drew (by omega) (by omega) HC3.out HR3.out HA.out).mono ?_
        rintro e w4 ⟨q, rfl, hq0, hq1, hl⟩
        obtain ⟨j, rfl⟩ := Int.eq_ofNat_of_zero_le hq0
        have hj : j < nw := by omega
        have hjx : j < ws.length := by rw [← HN.out]; exact hj
        have hg4 : w3.grownBy w4 (some w.heap.size) := ⟨hl.2.os, hl.2.tape, hl.2.output, hl.2.size, hl.2.block⟩
        obtain ⟨g, o, e9, hcell⟩ := HRd.out j _ (List.getElem?_eq_getElem hjx)
        have hne := Hap.out g o e9 (by omega)
        exact ⟨j, g, o, ws[j], rfl, hj, e9, hg4.cell (HF3.out.cell hcell (by simpa using hne)) (by simpa using hne), HL.out _ (List.getElem_mem hjx), below_new (Cur.grown_trans HG3.out hg4)⟩)
      clear HC3 HR3 HF3 HG3 HRd HL HG2 HC2 HR2 HB2
      go_wp2_with fail
      go_region_with (first
        | (go_at_call 19; refine HPk.out.mono ?_; rintro e w4 ⟨j, g, o, y, rfl, hj, rfl, hcell, hy, hB4⟩; have hj0 : (0 : Int) ≤ (j : Int) := Int.natCast_nonneg _; have hj1 : (j : Int) < (nw : Int) := by omega)
        | fail)
      all_goals
        go_wp2_with fail
        go_ret2
        exact ⟨x, y, hx, hy, rfl, hB4⟩
end Go.Proofs.YtobjfmchnlnohaaGreatDoor.Dw
