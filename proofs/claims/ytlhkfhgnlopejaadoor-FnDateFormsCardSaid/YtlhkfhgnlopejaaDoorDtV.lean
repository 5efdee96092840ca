/-
  Drawing functions of chapter 3: DrawIsValidDate, DrawFormatDate, DrawParseDate.
-/
import Derived.Test.YtlhkfhgnlopejaaDoorDtU
import Derived.Test.YtlhkfhgnlopejaaDoorDtG
import Derived.Test.YtlhkfhgnlopejaaDoorDwS
namespace Go.Proofs.YtlhkfhgnlopejaaDoor.DtD
set_option linter.ambiguousOpen false
open Go.RowKit Pl Cur Draw0 Among DtPl Dt Law2 Go.Proofs.YtlhkfhgnlopejaaDoor.St
set_option linter.unusedSimpArgs false
set_option linter.unusedVariables false

def DrawnOne (w : World) (e : Ending) (w' : World) : Prop := ∃ y mo d ci, e = .returned (dtV y mo d ci) ∧ Below w.heap.size w w'
theorem fin4 {W W2 : World} {b : Nat} (k2 : Below W.heap.size W W2) (hb : W.heap.size ≤ b) (hp : D4F W2 b 0 0 0 false) (x0 x1 x2 : Int) (x3 : Bool) :
    Below W.heap.size W ((((W2.setCell ⟨b, 0, none⟩ (.int .i64 x0)).setCell ⟨b, 1, none⟩ (.int .i64 x1)).setCell ⟨b, 2, none⟩ (.int .i64 x2)).setCell ⟨b, 3, none⟩ (.bool x3)) ∧ D4 ((((W2.setCell ⟨b, 0, none⟩ (.int .i64 x0)).setCell ⟨b, 1, none⟩ (.int .i64 x1)).setCell ⟨b, 2, none⟩ (.int .i64 x2)).setCell ⟨b, 3, none⟩ (.bool x3)) b x0 x1 x2 x3 :=
  ⟨(((k2.setCell (p := ⟨b, 0, none⟩) hb _).setCell (p := ⟨b, 1, none⟩) hb _).setCell (p := ⟨b, 2, none⟩) hb _).setCell (p := ⟨b, 3, none⟩) hb _, hp.set4 x0 x1 x2 x3⟩

set_option maxHeartbeats 1000000 in
theorem drawValid (A : Option Addr) (n c : Nat) (w : World) (hn : n ≤ 65536) (hr : RdB w A n) (ha : Apart A n w.heap.size) :
    Calls Tryd.prog 15 #[.slice A n c] w (DrawnOne w) := by
  have HZ := Lib.hid (D4F.new w 0 0 0 false 25)
  have HB := Lib.hid (box_below w (.cells #[.int .i64 0, .int .i64 0, .int .i64 0, .bool false] 25))
  have HR := Lib.hid (rdb_below hr ha HB.out)
  have HA := Lib.hid ha
  clear hr ha
  go_enter Tryd.func15, Tryd.ntmps15
  go_wp2_with fail
  have HSz : Hid ((w.alloc (.cells #[.int .i64 0, .int .i64 0, .int .i64 0, .bool false] 25)).heap.size = w.heap.size + 1) := Lib.hid (by simp)
  generalize hW : w.alloc (.cells #[.int .i64 0, .int .i64 0, .int .i64 0, .bool false] 25) = w1 at HZ HB HR HSz ⊢
  clear hW
  have HA1 : Hid (Apart A n w1.heap.size) := Lib.hid (fun hp a h => Nat.lt_of_lt_of_le (HA.out hp a h) HB.out.size)
  have HC := Lib.hid (cur_new w1 A n c)
  have HR2 := Lib.hid (rdb_new HR.out HA1.out (.cells #[.slice A n c, .int .i64 0, .int .u64 0] 49))
  rw [HSz.out] at HC HA1
  refine (anyDate_any (w.heap.size + 1) A n c 0 0 _ (by omega) (by omega) HC.out HR2.out HA1.out).mono ?_
  rintro e w2 ⟨y, m, d, ci, rfl, hl⟩
  have hg := hl.2
  rw [← HSz.out] at hg
  have hbn : Below w1.heap.size w1 w2 := below_new hg
  clear hg
  have HP := Lib.hid (D4F.below hbn HZ.out)
  have k2 := HB.out.trans (hbn.mono HB.out.size)
  clear hl hbn HZ HB HR HC HR2 HA1 HSz
  obtain ⟨⟨pl, p0, p1, p2, p3⟩, pf0, pf1, pf2, pf3⟩ := HP.out
  go_wp2_with fail
  clear pl p0 p1 p2 p3 pf0 pf1 pf2 pf3
  obtain ⟨k3, hp3⟩ := fin4 k2 (Nat.le_refl _) HP.out y m d ci
  generalize hX : ((((w2.setCell ⟨w.heap.size, 0, none⟩ (.int .i64 y)).setCell ⟨w.heap.size, 1, none⟩ (.int .i64 m)).setCell ⟨w.heap.size, 2, none⟩ (.int .i64 d)).setCell ⟨w.heap.size, 3, none⟩ (.bool ci)) = W3 at k3 hp3 ⊢
  clear hX
  obtain ⟨_, u0, u1, u2, u3⟩ := hp3
  exact bodyPost_ret (v := dtV y m d ci) (by simp [results, Tryd.results15, go_sem, u0, u1, u2, u3]) rfl ⟨_, _, _, _, rfl, k3⟩

set_option maxHeartbeats 1000000 in
theorem drawFormat (A : Option Addr) (n c : Nat) (w : World) (hn : n ≤ 65536) (hr : RdB w A n) (ha : Apart A n w.heap.size) :
    Calls Tryd.prog 5 #[.slice A n c] w (DrawnOne w) := by
  have HZ := Lib.hid (D4F.new w 0 0 0 false 25)
  have HB := Lib.hid (box_below w (.cells #[.int .i64 0, .int .i64 0, .int .i64 0, .bool false] 25))
  have HR := Lib.hid (rdb_below hr ha HB.out)
  have HA := Lib.hid ha
  clear hr ha
  go_enter Tryd.func5, Tryd.ntmps5
  go_wp2_with fail
  generalize hW : w.alloc (.cells #[.int .i64 0, .int .i64 0, .int .i64 0, .bool false] 25) = w1 at HZ HB HR ⊢
  clear hW
  have HA1 : Hid (Apart A n w1.heap.size) := Lib.hid (fun hp a h => Nat.lt_of_lt_of_le (HA.out hp a h) HB.out.size)
  refine (drawValid A n c _ hn HR.out HA1.out).mono ?_
  rintro e w2 ⟨y, m, d, ci, rfl, hbn⟩
  have HP := Lib.hid (D4F.below hbn HZ.out)
  have k2 := HB.out.trans (hbn.mono HB.out.size)
  clear hbn HZ HB HR HA1
  obtain ⟨⟨pl, p0, p1, p2, p3⟩, pf0, pf1, pf2, pf3⟩ := HP.out
  go_wp2_with fail
  clear pl p0 p1 p2 p3 pf0 pf1 pf2 pf3
  obtain ⟨k3, hp3⟩ := fin4 k2 (Nat.le_refl _) HP.out y m d ci
  generalize hX : ((((w2.setCell ⟨w.heap.size, 0, none⟩ (.int .i64 y)).setCell ⟨w.heap.size, 1, none⟩ (.int .i64 m)).setCell ⟨w.heap.size, 2, none⟩ (.int .i64 d)).setCell ⟨w.heap.size, 3, none⟩ (.bool ci)) = W3 at k3 hp3 ⊢
  clear hX
  obtain ⟨_, u0, u1, u2, u3⟩ := hp3
  exact bodyPost_ret (v := dtV y m d ci) (by simp [results, Tryd.results5, go_sem, u0, u1, u2, u3]) rfl ⟨_, _, _, _, rfl, k3⟩

theorem grown_below' {w w1 w2 : World} {row : Option Nat} (h : w.grownBy w1 row) (hb : Below w1.heap.size w1 w2) : w.grownBy w2 row :=
  ⟨hb.os.trans h.os, hb.tape.trans h.tape, hb.output.trans h.output, Nat.le_trans h.size hb.size, fun k hk hr => (hb.block k (Nat.lt_of_lt_of_le hk h.size)).trans (h.block k hk hr)⟩
theorem text_le {y m d : Int} {c : Bool} (h : okB y m d c = true) : (DtTx.text y m d c).length ≤ 40 := by
  have hb := ok_bd h
  have h1 := DtTx.body_len y m d ⟨hb.1, hb.2.1⟩ ⟨hb.2.2.1, hb.2.2.2.1⟩ ⟨hb.2.2.2.2.1, hb.2.2.2.2.2⟩
  unfold DtTx.text
  split
  · decide
  · (try split) <;> simp <;> omega
set_option maxHeartbeats 1000000 in
theorem drawParse (A : Option Addr) (n c : Nat) (w : World) (hn : n ≤ 65536) (hr : RdB w A n) (ha : Apart A n w.heap.size) :
    Calls Tryd.prog 9 #[.slice A n c] w fun e w' => ∃ t : ByteArray, e = .returned (.string t) ∧ t.size ≤ 100 ∧ Below w.heap.size w w' := by
  have HR := Lib.hid (rdb_new hr ha (.cells #[.slice A n c, .int .i64 0, .int .u64 0] 49))
  have HA := Lib.hid ha
  have HC := Lib.hid (cur_new w A n c)
  clear hr ha
  go_enter Tryd.func9, Tryd.ntmps9
  go_wp2_with fail
  refine (date_any w.heap.size A n c 0 0 _ (by omega) (by omega) HC.out HR.out HA.out).mono ?_
  rintro e w1 ⟨y, m, d, ci, hok, rfl, ⟨k1, s1, hk1, hc1⟩, hg1⟩
  have HR1 := Lib.hid (HR.out.grown HA.out hg1)
  have HG1 := Lib.hid hg1
  have hb := ok_bd hok
  obtain ⟨y, rfl⟩ := Int.eq_ofNat_of_zero_le hb.1
  obtain ⟨m, rfl⟩ := Int.eq_ofNat_of_zero_le hb.2.2.1
  obtain ⟨d, rfl⟩ := Int.eq_ofNat_of_zero_le hb.2.2.2.2.1
  have HT := Lib.hid (DtF.sText y m d ci w1 hok)
  have htl := text_le hok
  generalize hT : DtTx.text y m d ci = T at HT htl
  clear hg1 hb hT hok
  go_wp2_with fail
  refine HT.out.mono ?_
  rintro e w2 ⟨rfl, b2⟩
  have hgl : w.heap.size < w1.heap.size := hc1.lt
  have hc2 : IsCur w2 w.heap.size A n c k1 s1 := (b2.block _ hgl).trans hc1
  have HG2 := Lib.hid (grown_below' HG1.out b2)
  have HR2 := Lib.hid (HR.out.grown HA.out HG2.out)
  have hts : (ba T).size ≤ 40 := by rw [ba_size]; exact htl
  generalize ba T = t at *
  clear b2 HT htl HR1 HG1 hc1
  go_wp2_with fail
  refine (one_any 3 (by omega) (by omega) w.heap.size A n c k1 s1 _ (by omega) (by omega) hc2 HR2.out HA.out).mono ?_
  rintro e w3 ⟨r, rfl, ⟨k3, s3, hk3, hc3⟩, hg3⟩
  have HG3 := Lib.hid (grown_trans HG2.out hg3)
  have HR3 := Lib.hid (HR.out.grown HA.out HG3.out)
  clear hg3
  cases r with
  | true =>
    go_wp2_with fail
    refine (Dw.spoilt_any t ⟨#[48, 49, 50, 51, 45, 99, 57]⟩ (by omega) (by decide) (by decide) w.heap.size A n c k3 s3 _ (by omega) (by omega) hc3 HR3.out HA.out).mono ?_
    rintro e w4 ⟨y, hy, rfl, hl4⟩
    have HB := Lib.hid (below_new (grown_trans HG3.out hl4.2))
    clear hl4
    go_wp2_with fail
    go_ret
    exact ⟨y, rfl, by omega, HB.out⟩
  | false =>
    have HB := Lib.hid (below_new HG3.out)
    go_wp2_with fail
    go_ret
    exact ⟨t, rfl, by omega, HB.out⟩
end Go.Proofs.YtlhkfhgnlopejaaDoor.DtD
