/-
  A field of a valid entry as it is rendered: contracts of knownLongDate, people, field, l10Year, l10Field; RenderField of the program and of the model.
-/
import Derived.Test.YtnekhfajolgjpaaGreatDoorGFv
import Derived.Test.YtnekhfajolgjpaaGreatDoorGJn
import Derived.Test.YtnekhfajolgjpaaGreatDoorGLd
import Derived.Test.YtnekhfajolgjpaaGreatDoorGNd
namespace Go.Proofs.YtnekhfajolgjpaaGreatDoor.Rdf
open Go.RowKit Pl Strs Help Name Stands SplitPl NmPl Word Part NGood Forms Nms Jn Kt Ens Fld LdPl
open Num (Tab Tab.below)
open LaidS (StrTab)
set_option linter.unusedSimpArgs false
set_option linter.unusedVariables false

/-- the long form of a date; none for the unknown one -/
def dlT (y m d : Int) (c : Bool) : ByteArray := if y = 0 then ⟨#[]⟩ else ba (ltext y.toNat m.toNat d.toNat c)
/-- the names of a list, joined -/
def ppT (L : List Nm) (q : Nat) : ByteArray := ba (jnB (ls (forms L)) q)
/-- the names of the months lie as laid -/
abbrev Mon (w : World) : Prop := StrTab 0 (mons.drop 1) w
/-- the rendered field -/
def rfS (e : En) (q : Nat) (f : ByteArray) : ByteArray := if (f.toList == [97, 117, 116, 104, 111, 114, 115]) then ppT e.auL q else if (f.toList == [101, 100, 105, 116, 111, 114, 115]) then ppT e.edL q else if (f.toList == [100, 97, 116, 101]) then dlT e.y e.m e.d e.ci else if (f.toList == [121, 101, 97, 114]) then dlT e.y 0 0 e.ci else if (f.toList == [107, 101, 121]) then e.key else fldS e f
theorem ok_year {y m d : Int} {c : Bool} (h : DtPl.okB y m d c = true) : DtPl.okB y 0 0 c = true := by
  rw [DtPl.okB_iff] at h ⊢
  cases c with
  | true => rw [DtPl.okT] at h ⊢; omega
  | false => rw [DtPl.okF] at h ⊢; omega
theorem ltext_year (y : Nat) (c : Bool) (h : y ≠ 0) : ltext y 0 0 c = (if c then ca else []) ++ Lib.decDigits y := by
  unfold ltext lbody
  rw [if_neg h]
  simp
set_option maxHeartbeats 1000000 in
theorem long_i (y m d : Int) (c : Bool) (w : World) (hv : DtPl.okB y m d c = true) (ht : Tab w) (hmn : Mon w) :
    Calls Tryz.prog 41 #[.agg #[.int .i64 y, .int .i64 m, .int .i64 d, .bool c]] w fun e w' => e = .returned (.string (dlT y m d c)) ∧ Below w.heap.size w w' := by
  have hz := DtPl.ok_zero hv
  have hbd := DtPl.ok_bd hv
  obtain ⟨y, rfl⟩ := Int.eq_ofNat_of_zero_le hbd.1
  obtain ⟨m, rfl⟩ := Int.eq_ofNat_of_zero_le hbd.2.2.1
  obtain ⟨d, rfl⟩ := Int.eq_ofNat_of_zero_le hbd.2.2.2.2.1
  have HT := Lib.hid (fun w' (hb : Below w.heap.size w w') => Ldi.iLong y m d c w' hv (ht.below hb) (hmn.below hb))
  have HU := Lib.hid (fun w' => Dt.isUnknown y m d c _ w' hz)
  clear hz hv ht hmn
  by_cases h0 : (y : Int) = 0
  · have HV : Hid (dlT y m d c = ⟨#[]⟩) := Lib.hid (if_pos h0)
    rw [decide_eq_true h0] at HU
    clear h0
    go_enter Tryz.func41, Tryz.ntmps41
    go_wp2_with fail
    refine (HU.out _).mono ?_
    rintro e w1 ⟨rfl, b1⟩
    go_wp2_with fail
    go_ret
    exact ⟨by rw [HV.out]; rfl, (Dt.box_below _ _).trans (b1.mono (Dt.box_below _ _).size)⟩
  · have HV : Hid (dlT y m d c = ba (ltext y m d c)) := Lib.hid ((if_neg h0).trans (by simp only [Int.toNat_natCast]))
    rw [decide_eq_false h0] at HU
    clear h0
    go_enter Tryz.func41, Tryz.ntmps41
    go_wp2_with fail
    refine (HU.out _).mono ?_
    rintro e w1 ⟨rfl, b1⟩
    have HB1 := Lib.hid ((Dt.box_below w (.cells #[.int .i64 y, .int .i64 m, .int .i64 d, .bool c] 31)).trans (b1.mono (Dt.box_below w (.cells #[.int .i64 y, .int .i64 m, .int .i64 d, .bool c] 31)).size))
    obtain ⟨x0, x1, x2, x3⟩ : (w1.cell? ⟨w.heap.size, 0, none⟩ = some (.int .i64 y) ∧ w1.cell? ⟨w.heap.size, 1, none⟩ = some (.int .i64 m) ∧ w1.cell? ⟨w.heap.size, 2, none⟩ = some (.int .i64 d) ∧ w1.cell? ⟨w.heap.size, 3, none⟩ = some (.bool c)) := by
      refine ⟨(b1.cell (p := ⟨w.heap.size, 0, none⟩) (by simp)).trans (by simp), (b1.cell (p := ⟨w.heap.size, 1, none⟩) (by simp)).trans (by simp), (b1.cell (p := ⟨w.heap.size, 2, none⟩) (by simp)).trans (by simp), (b1.cell (p := ⟨w.heap.size, 3, none⟩) (by simp)).trans (by simp)⟩
    clear b1
    go_wp2_with fail
    refine (HT.out _ HB1.out).mono ?_
    rintro e w2 ⟨rfl, b2⟩
    go_wp2_with fail
    go_ret
    exact ⟨by rw [HV.out]; rfl, HB1.out.trans (b2.mono HB1.out.size)⟩
theorem ca_ba (u : Nat) : (⟨#[99, 97, 46, 32]⟩ : ByteArray) ++ ba (Lib.decDigits u) = ba (ca ++ Lib.decDigits u) := by
  apply ByteArray.ext
  simp [ba, ca]
set_option maxHeartbeats 1000000 in
theorem year_s (y m d : Int) (c : Bool) (w : World) (hv : DtPl.okB y m d c = true) :
    Calls Tryz.prog 29 #[.agg #[.int .i64 y, .int .i64 m, .int .i64 d, .bool c]] w fun e w' => e = .returned (.string (dlT y 0 0 c)) ∧ Below w.heap.size w w' := by
  have hbd := DtPl.ok_bd hv
  obtain ⟨y, rfl⟩ := Int.eq_ofNat_of_zero_le hbd.1
  have hy : y ≤ 2999 := by omega
  have HNm := Lib.hid (fun w => Ld.num_below y (by omega) w)
  have HB := Lib.hid (Dt.box_below w (.cells #[.int .i64 y, .int .i64 m, .int .i64 d, .bool c] 31))
  have hln : (Lib.decDigits y).length ≤ 3000 := Nat.le_trans (Num.dec_len y) (by omega)
  have hsz : (ba (Lib.decDigits y)).size ≤ 3000 := by rw [ba_size]; exact hln
  clear hv hbd hln
  by_cases h0 : y = 0
  · have HV : Hid (dlT y 0 0 c = ⟨#[]⟩) := Lib.hid (if_pos (by omega))
    subst h0
    go_enter Tryz.func29, Tryz.ntmps29
    go_wp2_with fail
    go_ret
    exact ⟨by rw [HV.out]; rfl, HB.out⟩
  · have HV : Hid (dlT y 0 0 c = ba ((if c then ca else []) ++ Lib.decDigits y)) := Lib.hid ((if_neg (by omega)).trans (by rw [← ltext_year y c h0]; simp only [Int.toNat_natCast]; rfl))
    have hd : decide ((y : Int) = 0) = false := by simpa using h0
    have hd' : ((y : Int) == 0) = false := by simpa using h0
    have HC := Lib.hid (ca_ba y)
    clear h0
    generalize hDd : ba (Lib.decDigits y) = D at *
    have HDd := Lib.hid hDd
    clear hDd
    cases c with
    | false =>
      go_enter Tryz.func29, Tryz.ntmps29
      go_wp2_with fail
      refine (HNm.out _).mono ?_
      rintro e w1 ⟨rfl, b1⟩
      go_wp2_with fail
      go_ret
      exact ⟨by rw [HV.out]; exact ret_str (by rw [← HDd.out]; simp), HB.out.trans (b1.mono HB.out.size)⟩
    | true =>
      go_enter Tryz.func29, Tryz.ntmps29
      go_wp2_with fail
      refine (HNm.out _).mono ?_
      rintro e w1 ⟨rfl, b1⟩
      go_wp2_with fail
      go_ret
      exact ⟨by rw [HV.out]; exact ret_str HC.out, HB.out.trans (b1.mono HB.out.size)⟩

set_option maxRecDepth 100000 in
set_option maxHeartbeats 4000000 in
theorem people_i (key : ByteArray) (kind : Int) (auA : Option Addr) (auN auc : Nat) (auL : List Nm) (edA : Option Addr) (edN edc : Nat) (edL : List Nm) (ti : ByteArray) (co : ByteArray) (pu : ByteArray) (y : Int) (m : Int) (d : Int) (ci : Bool) (vol : Int) (pa : ByteArray) (cr : ByteArray) (q : Nat) (A : Option Addr) (c N : Nat) (L : List Nm) (w : World) (h : RdN0 w A L) (hn : L.length = N) (hok : okL L = true) (hz : ∀ x ∈ L, x.sz ≤ 1048576) (h1 : 1 ≤ q) (h4 : q ≤ 4) :
    Calls Tryz.prog 40 #[.agg #[.string key, .int .i64 kind, .slice auA auN auc, .slice edA edN edc, .string ti, .string co, .string pu, .int .i64 y, .int .i64 m, .int .i64 d, .bool ci, .int .i64 vol, .string pa, .string cr, .int .i64 (q : Int)], .slice A N c] w fun e w' => e = .returned (.string (ppT L q)) ∧ Below w.heap.size w w' := by
  have hN : N ≤ 4 := by rw [← hn]; exact (okL_le hok).1
  have HB := Lib.hid (Dt.box_below w (.cells #[.string key, .int .i64 kind, .slice auA auN auc, .slice edA edN edc, .string ti, .string co, .string pu, .int .i64 y, .int .i64 m, .int .i64 d, .bool ci, .int .i64 vol, .string pa, .string cr, .int .i64 (q : Int)] 45))
  have HJ := Lib.hid (implJoin A c N (q : Int) L _ (h.below HB.out) hn (by omega) hz)
  rw [show jnV L (q : Int) = .tuple #[.string (ppT L q), .bool true] from (if_pos ⟨hok, by omega⟩).trans (by simp only [Int.toNat_natCast]; rfl)] at HJ
  generalize ppT L q = P at *
  clear h hok hz h1 h4
  go_enter Tryz.func40, Tryz.ntmps40
  go_wp2_with fail
  refine HJ.out.mono ?_
  rintro e w1 ⟨rfl, b1⟩
  go_wp2_with fail
  go_ret
  exact ⟨rfl, HB.out.trans (b1.mono HB.out.size)⟩

set_option maxRecDepth 100000 in
set_option maxHeartbeats 16000000 in
theorem field_i (key : ByteArray) (kind : Int) (auA : Option Addr) (auN auc : Nat) (auL : List Nm) (edA : Option Addr) (edN edc : Nat) (edL : List Nm) (ti : ByteArray) (co : ByteArray) (pu : ByteArray) (y : Int) (m : Int) (d : Int) (ci : Bool) (vol : Int) (pa : ByteArray) (cr : ByteArray) (q : Nat) (f : ByteArray) (w : World) (hr : (⟨key, kind, auA, auN, auc, auL, edA, edN, edc, edL, ti, co, pu, y, m, d, ci, vol, pa, cr⟩ : En).Rd w) (hcp : (⟨key, kind, auA, auN, auc, auL, edA, edN, edc, edL, ti, co, pu, y, m, d, ci, vol, pa, cr⟩ : En).Cp) (hz : (⟨key, kind, auA, auN, auc, auL, edA, edN, edc, edL, ti, co, pu, y, m, d, ci, vol, pa, cr⟩ : En).sz ≤ 1048576) (hok : okE (⟨key, kind, auA, auN, auc, auL, edA, edN, edc, edL, ti, co, pu, y, m, d, ci, vol, pa, cr⟩ : En) = true) (h1 : 1 ≤ q) (h4 : q ≤ 4) (ht : Tab w) (hmn : Mon w) :
    Calls Tryz.prog 18 #[.agg #[.string key, .int .i64 kind, .slice auA auN auc, .slice edA edN edc, .string ti, .string co, .string pu, .int .i64 y, .int .i64 m, .int .i64 d, .bool ci, .int .i64 vol, .string pa, .string cr, .int .i64 (q : Int)], .string f] w fun e w' => e = .returned (.string (rfS (⟨key, kind, auA, auN, auc, auL, edA, edN, edc, edL, ti, co, pu, y, m, d, ci, vol, pa, cr⟩ : En) q f)) ∧ Below w.heap.size w w' := by
  obtain ⟨p1, p2, p3, p4, -⟩ := ok_parts hok
  dsimp only at p1 p2 p3 p4
  have hz' : key.size + (auN + szL auL) + (edN + szL edL) + ti.size + co.size + pu.size + pa.size + cr.size ≤ 1048576 := hz
  have HB := Lib.hid (Dt.box_below w (.cells #[.string key, .int .i64 kind, .slice auA auN auc, .slice edA edN edc, .string ti, .string co, .string pu, .int .i64 y, .int .i64 m, .int .i64 d, .bool ci, .int .i64 vol, .string pa, .string cr, .int .i64 (q : Int)] 45))
  have HA := Lib.hid (fun w' (hk : Below w.heap.size w w') => people_i key kind auA auN auc auL edA edN edc edL ti co pu y m d ci vol pa cr q auA auc auN auL w' (hr.1.below hk) hr.2.1 p1 (fun x hx => by have := szL_mem hx; omega) h1 h4)
  have HE := Lib.hid (fun w' (hk : Below w.heap.size w w') => people_i key kind auA auN auc auL edA edN edc edL ti co pu y m d ci vol pa cr q edA edc edN edL w' (hr.2.2.1.below hk) hr.2.2.2 p2 (fun x hx => by have := szL_mem hx; omega) h1 h4)
  have HD := Lib.hid (fun w' (hk : Below w.heap.size w w') => long_i y m d ci w' p3 (ht.below hk) (hmn.below hk))
  have HY := Lib.hid (fun w' (hk : Below w.heap.size w w') => long_i y 0 0 ci w' (ok_year p3) (ht.below hk) (hmn.below hk))
  have HF := Lib.hid (fun w' (hk : Below w.heap.size w w') => fieldText_any key kind auA auN auc auL edA edN edc edL ti co pu y m d ci vol pa cr f w' (hr.below hk) hcp hok (ht.below hk))
  clear hr hcp hok ht hmn p1 p2 p3 p4 hz hz' h1 h4
  go_enter Tryz.func18, Tryz.ntmps18
  go_wp2_with (first
    | ((with_reducible refine (HA.out _ HB.out).mono ?_); rintro e w1 ⟨rfl, b1⟩)
    | ((with_reducible refine (HE.out _ HB.out).mono ?_); rintro e w1 ⟨rfl, b1⟩)
    | ((with_reducible refine (HD.out _ HB.out).mono ?_); rintro e w1 ⟨rfl, b1⟩)
    | ((with_reducible refine (HY.out _ HB.out).mono ?_); rintro e w1 ⟨rfl, b1⟩)
    | ((with_reducible refine (HF.out _ HB.out).mono ?_); rintro e w1 ⟨rfl, b1⟩))
  all_goals
    first
      | (go_ret; exact ⟨ret_str (by first | (rename_i ht; have ht' := eq_of_beq ht; simp [rfS, ht']; done) | simp [rfS, *]), HB.out.trans (b1.mono HB.out.size)⟩)
      | (go_ret; exact ⟨ret_str (by first | (rename_i ht; have ht' := eq_of_beq ht; simp [rfS, ht']; done) | simp [rfS, *]), HB.out⟩)

set_option maxRecDepth 100000 in
set_option maxHeartbeats 16000000 in
theorem field_s (key : ByteArray) (kind : Int) (auA : Option Addr) (auN auc : Nat) (auL : List Nm) (edA : Option Addr) (edN edc : Nat) (edL : List Nm) (ti : ByteArray) (co : ByteArray) (pu : ByteArray) (y : Int) (m : Int) (d : Int) (ci : Bool) (vol : Int) (pa : ByteArray) (cr : ByteArray) (q : Nat) (f : ByteArray) (w : World) (hr : (⟨key, kind, auA, auN, auc, auL, edA, edN, edc, edL, ti, co, pu, y, m, d, ci, vol, pa, cr⟩ : En).Rd w) (hok : okE (⟨key, kind, auA, auN, auc, auL, edA, edN, edc, edL, ti, co, pu, y, m, d, ci, vol, pa, cr⟩ : En) = true) (h1 : 1 ≤ q) :
    Calls Tryz.prog 13 #[.agg #[.string key, .int .i64 kind, .slice auA auN auc, .slice edA edN edc, .string ti, .string co, .string pu, .int .i64 y, .int .i64 m, .int .i64 d, .bool ci, .int .i64 vol, .string pa, .string cr], .int .i64 (q : Int), .string f] w fun e w' => e = .returned (.string (rfS (⟨key, kind, auA, auN, auc, auL, edA, edN, edc, edL, ti, co, pu, y, m, d, ci, vol, pa, cr⟩ : En) q f)) ∧ Below w.heap.size w w' := by
  obtain ⟨p1, p2, p3, p4, -⟩ := ok_parts hok
  dsimp only at p1 p2 p3 p4
  have q1 : auN ≤ 4 := by have h1 := (okL_le p1).1; have h2 : auL.length = auN := hr.2.1; omega
  have q2 : edN ≤ 4 := by have h1 := (okL_le p2).1; have h2 : edL.length = edN := hr.2.2.2; omega
  have hbd := DtPl.ok_bd p3
  have HB := Lib.hid (Dt.box_below w (.cells #[.string key, .int .i64 kind, .slice auA auN auc, .slice edA edN edc, .string ti, .string co, .string pu, .int .i64 y, .int .i64 m, .int .i64 d, .bool ci, .int .i64 vol, .string pa, .string cr] 33))
  have HA := Lib.hid (fun w' (hk : Below w.heap.size w w') => l2Names auA auc auN q auL w' (hr.1.below hk) hr.2.1 q1 h1 (okL_le p1).2)
  have HE := Lib.hid (fun w' (hk : Below w.heap.size w w') => l2Names edA edc edN q edL w' (hr.2.2.1.below hk) hr.2.2.2 q2 h1 (okL_le p2).2)
  have HY := Lib.hid (fun w' (hk : Below w.heap.size w w') => year_s y m d ci w' p3)
  have HF := Lib.hid (fun w' (hk : Below w.heap.size w w') => l4Field_any key kind auA auN auc auL edA edN edc edL ti co pu y m d ci vol pa cr f w' (hr.below hk) hok)
  by_cases hy0 : y = 0
  · have HD0 : Hid (dlT y m d ci = ⟨#[]⟩) := Lib.hid (if_pos hy0)
    subst hy0
    clear hr hok p1 p2 p3 p4 q1 q2 hbd h1
    go_enter Tryz.func13, Tryz.ntmps13
    go_wp2_with (first
      | ((with_reducible refine (HA.out _ HB.out).mono ?_); rintro e w1 ⟨rfl, b1⟩)
      | ((with_reducible refine (HE.out _ HB.out).mono ?_); rintro e w1 ⟨rfl, b1⟩)
      | ((with_reducible refine (HY.out _ HB.out).mono ?_); rintro e w1 ⟨rfl, b1⟩)
      | ((with_reducible refine (HF.out _ HB.out).mono ?_); rintro e w1 ⟨rfl, b1⟩))
    all_goals
      first
        | (go_ret; exact ⟨ret_str (by have hd0 := HD0.out; first | (rename_i ht; have ht' := eq_of_beq ht; simp [rfS, ppT, hd0, ht']; done) | simp [rfS, ppT, hd0, *]), HB.out.trans (b1.mono HB.out.size)⟩)
        | (go_ret; exact ⟨ret_str (by have hd0 := HD0.out; first | (rename_i ht; have ht' := eq_of_beq ht; simp [rfS, ppT, hd0, ht']; done) | simp [rfS, ppT, hd0, *]), HB.out⟩)
  · have HD0 : Hid (dlT y m d ci = ba (ltext y.toNat m.toNat d.toNat ci)) := Lib.hid (if_neg hy0)
    have hyd : decide (y = 0) = false := decide_eq_false hy0
    have hyd' : (y == 0) = false := by simpa using hy0
    have HD : Hid (∀ w' : World, Calls Tryz.prog 30 #[.agg #[.int .i64 y, .int .i64 m, .int .i64 d, .bool ci]] w' fun e w2 => e = .returned (.string (ba (ltext y.toNat m.toNat d.toNat ci))) ∧ Below w'.heap.size w' w2) := Lib.hid (fun w' => by
      have hv := p3
      obtain ⟨y', rfl⟩ := Int.eq_ofNat_of_zero_le hbd.1
      obtain ⟨m', rfl⟩ := Int.eq_ofNat_of_zero_le hbd.2.2.1
      obtain ⟨d', rfl⟩ := Int.eq_ofNat_of_zero_le hbd.2.2.2.2.1
      simp only [Int.toNat_natCast]
      exact Ld.sLong y' m' d' ci w' hv)
    clear hr hok p1 p2 p3 p4 q1 q2 hbd h1 hy0
    go_enter Tryz.func13, Tryz.ntmps13
    go_wp2_with (first
      | ((with_reducible refine (HA.out _ HB.out).mono ?_); rintro e w1 ⟨rfl, b1⟩)
      | ((with_reducible refine (HE.out _ HB.out).mono ?_); rintro e w1 ⟨rfl, b1⟩)
      | ((with_reducible refine (HY.out _ HB.out).mono ?_); rintro e w1 ⟨rfl, b1⟩)
      | ((with_reducible refine (HD.out _).mono ?_); rintro e w1 ⟨rfl, b1⟩)
      | ((with_reducible refine (HF.out _ HB.out).mono ?_); rintro e w1 ⟨rfl, b1⟩))
    all_goals
      first
        | (go_ret; exact ⟨ret_str (by have hd0 := HD0.out; first | (rename_i ht; have ht' := eq_of_beq ht; simp [rfS, ppT, hd0, ht']; done) | simp [rfS, ppT, hd0, *]), HB.out.trans (b1.mono HB.out.size)⟩)
        | (go_ret; exact ⟨ret_str (by have hd0 := HD0.out; first | (rename_i ht; have ht' := eq_of_beq ht; simp [rfS, ppT, hd0, ht']; done) | simp [rfS, ppT, hd0, *]), HB.out⟩)

/-- what RenderField answers -/
def rfB (e : En) (z : Int) (f : ByteArray) : Bool := okE e && (decide (1 ≤ z ∧ z ≤ 4) && Ns.isSF f)
def rfT (e : En) (z : Int) (f : ByteArray) : ByteArray := if rfB e z f then rfS e z.toNat f else ⟨#[]⟩
theorem forms_kk {L M : List Nm} (h : L.map Nm.key = M.map Nm.key) : forms L = forms M := by rw [forms_key, forms_key, h]
theorem rfS_kk {x y : En} (q : Nat) (f : ByteArray) (h : x.key4 = y.key4) : rfS x q f = rfS y q f := by
  have hf := fldS_kk f h
  obtain ⟨h1, h2, h3, h4, h5, h6, h7, h8, h9, h10, h11, h12, h13, h14⟩ := key4_parts h
  unfold rfS ppT
  rw [hf, forms_kk h3, forms_kk h4, h1, h8, h9, h10, h11]
theorem rfB_kk {x y : En} (z : Int) (f : ByteArray) (h : x.key4 = y.key4) : rfB x z f = rfB y z f := by
  unfold rfB; rw [okE_kk h]
theorem rfT_kk {x y : En} (z : Int) (f : ByteArray) (h : x.key4 = y.key4) : rfT x z f = rfT y z f := by
  unfold rfT; rw [rfB_kk z f h, rfS_kk _ f h]
theorem rf_yes {e : En} {z : Int} {f : ByteArray} (h : rfB e z f = true) : okE e = true ∧ (1 ≤ z ∧ z ≤ 4) ∧ Ns.isSF f = true := by
  unfold rfB at h
  rw [Bool.and_eq_true, Bool.and_eq_true, decide_eq_true_eq] at h
  exact h


set_option maxRecDepth 100000 in
set_option maxHeartbeats 8000000 in
theorem render_i (key : ByteArray) (kind : Int) (auA : Option Addr) (auN auc : Nat) (auL : List Nm) (edA : Option Addr) (edN edc : Nat) (edL : List Nm) (ti : ByteArray) (co : ByteArray) (pu : ByteArray) (y : Int) (m : Int) (d : Int) (ci : Bool) (vol : Int) (pa : ByteArray) (cr : ByteArray) (z : Int) (f : ByteArray) (w : World) (hr : (⟨key, kind, auA, auN, auc, auL, edA, edN, edc, edL, ti, co, pu, y, m, d, ci, vol, pa, cr⟩ : En).Rd w) (hcp : (⟨key, kind, auA, auN, auc, auL, edA, edN, edc, edL, ti, co, pu, y, m, d, ci, vol, pa, cr⟩ : En).Cp) (hz : (⟨key, kind, auA, auN, auc, auL, edA, edN, edc, edL, ti, co, pu, y, m, d, ci, vol, pa, cr⟩ : En).sz ≤ 1048576) (ht : Tab w) (hmn : Mon w) :
    Calls Tryz.prog 7 #[.agg #[.string key, .int .i64 kind, .slice auA auN auc, .slice edA edN edc, .string ti, .string co, .string pu, .int .i64 y, .int .i64 m, .int .i64 d, .bool ci, .int .i64 vol, .string pa, .string cr], .int .i64 z, .string f] w fun e w' => e = .returned (.tuple #[.string (rfT (⟨key, kind, auA, auN, auc, auL, edA, edN, edc, edL, ti, co, pu, y, m, d, ci, vol, pa, cr⟩ : En) z f), .bool (rfB (⟨key, kind, auA, auN, auc, auL, edA, edN, edc, edL, ti, co, pu, y, m, d, ci, vol, pa, cr⟩ : En) z f)]) ∧ Below w.heap.size w w' := by
  have HB := Lib.hid (Dt.box_below w (.cells #[.string key, .int .i64 kind, .slice auA auN auc, .slice edA edN edc, .string ti, .string co, .string pu, .int .i64 y, .int .i64 m, .int .i64 d, .bool ci, .int .i64 vol, .string pa, .string cr] 33))
  have HX := Lib.hid (E14.new w (⟨key, kind, auA, auN, auc, auL, edA, edN, edc, edL, ti, co, pu, y, m, d, ci, vol, pa, cr⟩ : En) 33)
  have HV := Lib.hid (isValidE_any key kind auA auN auc auL edA edN edc edL ti co pu y m d ci vol pa cr _ (hr.below HB.out) hz)
  have HSf := Lib.hid (fun w' => Ns.sfield_i f _ w' rfl)
  generalize hrf : rfT (⟨key, kind, auA, auN, auc, auL, edA, edN, edc, edL, ti, co, pu, y, m, d, ci, vol, pa, cr⟩ : En) z f = rt
  generalize hrb : rfB (⟨key, kind, auA, auN, auc, auL, edA, edN, edc, edL, ti, co, pu, y, m, d, ci, vol, pa, cr⟩ : En) z f = rb
  cases hok : okE (⟨key, kind, auA, auN, auc, auL, edA, edN, edc, edL, ti, co, pu, y, m, d, ci, vol, pa, cr⟩ : En) with
  | false =>
    rw [hok] at HV
    have hb0 : rb = false := by rw [← hrb]; unfold rfB; rw [hok]; rfl
    have HF : Hid (rt = ⟨#[]⟩ ∧ rb = false) := Lib.hid ⟨by rw [← hrf]; unfold rfT; rw [hrb, hb0]; rfl, hb0⟩
    clear hr hz hok HX hrf hrb hb0 hcp ht hmn HSf
    go_enter Tryz.func7, Tryz.ntmps7
    go_wp2_with fail
    refine HV.out.mono ?_
    rintro e w1 ⟨rfl, b1⟩
    go_wp2_with fail
    go_ret2
    exact ⟨by rw [HF.out.1, HF.out.2]; rfl, HB.out.trans (b1.mono HB.out.size)⟩
  | true =>
    rw [hok] at HV
    by_cases hn : 1 ≤ z ∧ z ≤ 4
    · have HI : Hid (decide (1 ≤ z ∧ z ≤ 4) = true) := Lib.hid (decide_eq_true hn)
      have hi1 : decide (z < 1) = false := decide_eq_false (by omega)
      have hi2 : decide (4 < z) = false := decide_eq_false (by omega)
      have HW := Lib.hid (fun w' (hk : Below w.heap.size w w') => field_i key kind auA auN auc auL edA edN edc edL ti co pu y m d ci vol pa cr z.toNat f w' (hr.below hk) hcp hz hok (by omega) (by omega) (ht.below hk) (hmn.below hk))
      have hze : ((z.toNat : Nat) : Int) = z := Int.toNat_of_nonneg (by omega)
      rw [hze] at HW
      cases hsf : Ns.isSF f with
      | false =>
        rw [hsf] at HSf
        have hb0 : rb = false := by rw [← hrb]; unfold rfB; rw [hsf]; simp
        have HF : Hid (rt = ⟨#[]⟩ ∧ rb = false) := Lib.hid ⟨by rw [← hrf]; unfold rfT; rw [hrb, hb0]; rfl, hb0⟩
        clear hr hz hok HX hrf hrb hb0 hcp ht hmn HW hsf hn hze
        go_enter Tryz.func7, Tryz.ntmps7
        go_wp2_with fail
        refine HV.out.mono ?_
        rintro e w1 ⟨rfl, b1⟩
        have k1 := HB.out.trans (b1.mono HB.out.size)
        go_wp2_with (first | (go_at_call 11; refine (Dt.l1In_any z 1 4 _ _ HI.out).mono ?_; rintro e w' ⟨rfl, rfl⟩))
        refine (HSf.out _).mono ?_
        rintro e w2 ⟨rfl, b2⟩
        go_wp2_with fail
        go_ret2
        exact ⟨by rw [HF.out.1, HF.out.2]; rfl, k1.trans (b2.mono k1.size)⟩
      | true =>
        rw [hsf] at HSf
        have hb0 : rb = true := by rw [← hrb]; unfold rfB; rw [hok, hsf, HI.out]; rfl
        have HF : Hid (rt = rfS (⟨key, kind, auA, auN, auc, auL, edA, edN, edc, edL, ti, co, pu, y, m, d, ci, vol, pa, cr⟩ : En) z.toNat f ∧ rb = true) := Lib.hid ⟨by rw [← hrf]; unfold rfT; rw [hrb, hb0]; rfl, hb0⟩
        clear hr hz hok hrf hrb hb0 hcp ht hmn hsf hn hze
        generalize rfS (⟨key, kind, auA, auN, auc, auL, edA, edN, edc, edL, ti, co, pu, y, m, d, ci, vol, pa, cr⟩ : En) z.toNat f = rr at *
        go_enter Tryz.func7, Tryz.ntmps7
        go_wp2_with fail
        generalize w.alloc _ = w0 at HB HX HV ⊢
        refine HV.out.mono ?_
        rintro e w1 ⟨rfl, b1⟩
        have k1 := HB.out.trans (b1.mono HB.out.size)
        have HX1 := Lib.hid (HX.out.below b1)
        clear b1 HV HX
        go_wp2_with (first | (go_at_call 11; refine (Dt.l1In_any z 1 4 _ _ HI.out).mono ?_; rintro e w' ⟨rfl, rfl⟩))
        refine (HSf.out _).mono ?_
        rintro e w2 ⟨rfl, b2⟩
        have k2 := k1.trans (b2.mono k1.size)
        obtain ⟨hl, c0, c1, c2, c3, c4, c5, c6, c7, c8, c9, c10, c11, c12, c13⟩ := HX1.out.below b2
        dsimp only at c0 c1 c2 c3 c4 c5 c6 c7 c8 c9 c10 c11 c12 c13
        clear b2 HX1 HSf
        go_wp2_with fail
        refine (HW.out _ k2).mono ?_
        rintro e w4 ⟨rfl, b4⟩
        go_wp2_with fail
        go_ret2
        exact ⟨by rw [HF.out.1, HF.out.2]; rfl, k2.trans (b4.mono k2.size)⟩
    · have hb0 : rb = false := by rw [← hrb]; unfold rfB; rw [decide_eq_false hn]; simp
      have HF : Hid (rt = ⟨#[]⟩ ∧ rb = false) := Lib.hid ⟨by rw [← hrf]; unfold rfT; rw [hrb, hb0]; rfl, hb0⟩
      have HI : Hid (decide (1 ≤ z ∧ z ≤ 4) = false) := Lib.hid (decide_eq_false hn)
      by_cases hz1 : z < 1
      all_goals
        clear hr hz hok HX hrf hrb hb0 hcp ht hmn HSf
        go_enter Tryz.func7, Tryz.ntmps7
        go_wp2_with fail
        refine HV.out.mono ?_
        rintro e w1 ⟨rfl, b1⟩
        have hi2 : decide (4 < z) = decide (¬ z < 1) := by rw [decide_eq_decide]; omega
        have hi3 : ¬ z < 1 → 4 < z := fun h => by omega
        clear hn
        (try have hi4 := hi3 hz1)
        go_wp2_with (first | (go_at_call 11; refine (Dt.l1In_any z 1 4 _ _ HI.out).mono ?_; rintro e w' ⟨rfl, rfl⟩))
        go_ret2
        exact ⟨by rw [HF.out.1, HF.out.2]; rfl, HB.out.trans (b1.mono HB.out.size)⟩

set_option maxRecDepth 100000 in
set_option maxHeartbeats 8000000 in
theorem render_s (key : ByteArray) (kind : Int) (auA : Option Addr) (auN auc : Nat) (auL : List Nm) (edA : Option Addr) (edN edc : Nat) (edL : List Nm) (ti : ByteArray) (co : ByteArray) (pu : ByteArray) (y : Int) (m : Int) (d : Int) (ci : Bool) (vol : Int) (pa : ByteArray) (cr : ByteArray) (z : Int) (f : ByteArray) (w : World) (hr : (⟨key, kind, auA, auN, auc, auL, edA, edN, edc, edL, ti, co, pu, y, m, d, ci, vol, pa, cr⟩ : En).Rd w) (hz : (⟨key, kind, auA, auN, auc, auL, edA, edN, edc, edL, ti, co, pu, y, m, d, ci, vol, pa, cr⟩ : En).sz ≤ 1048576) :
    Calls Tryz.prog 5 #[.agg #[.string key, .int .i64 kind, .slice auA auN auc, .slice edA edN edc, .string ti, .string co, .string pu, .int .i64 y, .int .i64 m, .int .i64 d, .bool ci, .int .i64 vol, .string pa, .string cr], .int .i64 z, .string f] w fun e w' => e = .returned (.tuple #[.string (rfT (⟨key, kind, auA, auN, auc, auL, edA, edN, edc, edL, ti, co, pu, y, m, d, ci, vol, pa, cr⟩ : En) z f), .bool (rfB (⟨key, kind, auA, auN, auc, auL, edA, edN, edc, edL, ti, co, pu, y, m, d, ci, vol, pa, cr⟩ : En) z f)]) ∧ Below w.heap.size w w' := by
  have HB := Lib.hid (Dt.box_below w (.cells #[.string key, .int .i64 kind, .slice auA auN auc, .slice edA edN edc, .string ti, .string co, .string pu, .int .i64 y, .int .i64 m, .int .i64 d, .bool ci, .int .i64 vol, .string pa, .string cr] 33))
  have HX := Lib.hid (E14.new w (⟨key, kind, auA, auN, auc, auL, edA, edN, edc, edL, ti, co, pu, y, m, d, ci, vol, pa, cr⟩ : En) 33)
  have HV := Lib.hid (l4Entry_any key kind auA auN auc auL edA edN edc edL ti co pu y m d ci vol pa cr _ (hr.below HB.out) hz)
  have HSf := Lib.hid (fun w' => Ns.sfield_s f _ w' rfl)
  generalize hrf : rfT (⟨key, kind, auA, auN, auc, auL, edA, edN, edc, edL, ti, co, pu, y, m, d, ci, vol, pa, cr⟩ : En) z f = rt
  generalize hrb : rfB (⟨key, kind, auA, auN, auc, auL, edA, edN, edc, edL, ti, co, pu, y, m, d, ci, vol, pa, cr⟩ : En) z f = rb
  cases hok : okE (⟨key, kind, auA, auN, auc, auL, edA, edN, edc, edL, ti, co, pu, y, m, d, ci, vol, pa, cr⟩ : En) with
  | false =>
    rw [hok] at HV
    have hb0 : rb = false := by rw [← hrb]; unfold rfB; rw [hok]; rfl
    have HF : Hid (rt = ⟨#[]⟩ ∧ rb = false) := Lib.hid ⟨by rw [← hrf]; unfold rfT; rw [hrb, hb0]; rfl, hb0⟩
    clear hr hz hok HX hrf hrb hb0  HSf
    go_enter Tryz.func5, Tryz.ntmps5
    go_wp2_with fail
    refine HV.out.mono ?_
    rintro e w1 ⟨rfl, b1⟩
    go_wp2_with fail
    go_ret2
    exact ⟨by rw [HF.out.1, HF.out.2]; rfl, HB.out.trans (b1.mono HB.out.size)⟩
  | true =>
    rw [hok] at HV
    by_cases hn : 1 ≤ z ∧ z ≤ 4
    · have HI : Hid (decide (1 ≤ z ∧ z ≤ 4) = true) := Lib.hid (decide_eq_true hn)
      have hi1 : decide (z < 1) = false := decide_eq_false (by omega)
      have hi2 : decide (4 < z) = false := decide_eq_false (by omega)
      have HW := Lib.hid (fun w' (hk : Below w.heap.size w w') => field_s key kind auA auN auc auL edA edN edc edL ti co pu y m d ci vol pa cr z.toNat f w' (hr.below hk) hok (by omega))
      have hze : ((z.toNat : Nat) : Int) = z := Int.toNat_of_nonneg (by omega)
      rw [hze] at HW
      cases hsf : Ns.isSF f with
      | false =>
        rw [hsf] at HSf
        have hb0 : rb = false := by rw [← hrb]; unfold rfB; rw [hsf]; simp
        have HF : Hid (rt = ⟨#[]⟩ ∧ rb = false) := Lib.hid ⟨by rw [← hrf]; unfold rfT; rw [hrb, hb0]; rfl, hb0⟩
        clear hr hz hok HX hrf hrb hb0  HW hsf hn hze
        go_enter Tryz.func5, Tryz.ntmps5
        go_wp2_with fail
        refine HV.out.mono ?_
        rintro e w1 ⟨rfl, b1⟩
        have k1 := HB.out.trans (b1.mono HB.out.size)
        go_wp2_with (first | (go_at_call 11; refine (Dt.l1In_any z 1 4 _ _ HI.out).mono ?_; rintro e w' ⟨rfl, rfl⟩))
        refine (HSf.out _).mono ?_
        rintro e w2 ⟨rfl, b2⟩
        go_wp2_with fail
        go_ret2
        exact ⟨by rw [HF.out.1, HF.out.2]; rfl, k1.trans (b2.mono k1.size)⟩
      | true =>
        rw [hsf] at HSf
        have hb0 : rb = true := by rw [← hrb]; unfold rfB; rw [hok, hsf, HI.out]; rfl
        have HF : Hid (rt = rfS (⟨key, kind, auA, auN, auc, auL, edA, edN, edc, edL, ti, co, pu, y, m, d, ci, vol, pa, cr⟩ : En) z.toNat f ∧ rb = true) := Lib.hid ⟨by rw [← hrf]; unfold rfT; rw [hrb, hb0]; rfl, hb0⟩
        clear hr hz hok hrf hrb hb0  hsf hn hze
        generalize rfS (⟨key, kind, auA, auN, auc, auL, edA, edN, edc, edL, ti, co, pu, y, m, d, ci, vol, pa, cr⟩ : En) z.toNat f = rr at *
        go_enter Tryz.func5, Tryz.ntmps5
        go_wp2_with fail
        generalize w.alloc _ = w0 at HB HX HV ⊢
        refine HV.out.mono ?_
        rintro e w1 ⟨rfl, b1⟩
        have k1 := HB.out.trans (b1.mono HB.out.size)
        have HX1 := Lib.hid (HX.out.below b1)
        clear b1 HV HX
        go_wp2_with (first | (go_at_call 11; refine (Dt.l1In_any z 1 4 _ _ HI.out).mono ?_; rintro e w' ⟨rfl, rfl⟩))
        refine (HSf.out _).mono ?_
        rintro e w2 ⟨rfl, b2⟩
        have k2 := k1.trans (b2.mono k1.size)
        obtain ⟨hl, c0, c1, c2, c3, c4, c5, c6, c7, c8, c9, c10, c11, c12, c13⟩ := HX1.out.below b2
        dsimp only at c0 c1 c2 c3 c4 c5 c6 c7 c8 c9 c10 c11 c12 c13
        clear b2 HX1 HSf
        go_wp2_with fail
        refine (HW.out _ k2).mono ?_
        rintro e w4 ⟨rfl, b4⟩
        go_wp2_with fail
        go_ret2
        exact ⟨by rw [HF.out.1, HF.out.2]; rfl, k2.trans (b4.mono k2.size)⟩
    · have hb0 : rb = false := by rw [← hrb]; unfold rfB; rw [decide_eq_false hn]; simp
      have HF : Hid (rt = ⟨#[]⟩ ∧ rb = false) := Lib.hid ⟨by rw [← hrf]; unfold rfT; rw [hrb, hb0]; rfl, hb0⟩
      have HI : Hid (decide (1 ≤ z ∧ z ≤ 4) = false) := Lib.hid (decide_eq_false hn)
      by_cases hz1 : z < 1
      all_goals
        clear hr hz hok HX hrf hrb hb0  HSf
        go_enter Tryz.func5, Tryz.ntmps5
        go_wp2_with fail
        refine HV.out.mono ?_
        rintro e w1 ⟨rfl, b1⟩
        have hi2 : decide (4 < z) = decide (¬ z < 1) := by rw [decide_eq_decide]; omega
        have hi3 : ¬ z < 1 → 4 < z := fun h => by omega
        clear hn
        (try have hi4 := hi3 hz1)
        go_wp2_with (first | (go_at_call 11; refine (Dt.l1In_any z 1 4 _ _ HI.out).mono ?_; rintro e w' ⟨rfl, rfl⟩))
        go_ret2
        exact ⟨by rw [HF.out.1, HF.out.2]; rfl, HB.out.trans (b1.mono HB.out.size)⟩
end Go.Proofs.YtnekhfajolgjpaaGreatDoor.Rdf
