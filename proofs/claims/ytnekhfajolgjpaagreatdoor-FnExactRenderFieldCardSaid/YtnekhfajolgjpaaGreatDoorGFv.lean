/-
  Several texts of one claim in one file: Fv, Ft.
-/
import Derived.Test.YtnekhfajolgjpaaGreatDoorFld
import Derived.Test.YtnekhfajolgjpaaGreatDoorVe
import Derived.Test.YtnekhfajolgjpaaGreatDoorGDt
import Derived.Test.YtnekhfajolgjpaaGreatDoorVei
import Derived.Test.YtnekhfajolgjpaaGreatDoorShelf2
/-
  The text of a field of a valid entry: contracts of knownDateText, volumeText, fieldText and of the model's l4Field.
-/
namespace Go.Proofs.YtnekhfajolgjpaaGreatDoor.Fld
open Go.RowKit Pl Strs Help Name Stands SplitPl NmPl Word Part NGood Forms Nms Jn Kt Ens
open Num (Tab Tab.below)
set_option linter.unusedSimpArgs false
set_option linter.unusedVariables false

/-- the text of a date; none for the unknown one -/
def dtT (y m d : Int) (c : Bool) : ByteArray := if y = 0 then ⟨#[]⟩ else ba (DtTx.text y m d c)
/-- the text of a volume; none for 0 -/
def volT (v : Int) : ByteArray := if v = 0 then ⟨#[]⟩ else ba (Lib.itoa v)
/-- the text of a field -/
def fldS (e : En) (f : ByteArray) : ByteArray := if (f.toList == [97, 117, 116, 104, 111, 114, 115]) then ba (nmsL e.auL) else if (f.toList == [101, 100, 105, 116, 111, 114, 115]) then ba (nmsL e.edL) else if (f.toList == [116, 105, 116, 108, 101]) then e.ti else if (f.toList == [99, 111, 110, 116, 97, 105, 110, 101, 114]) then e.co else if (f.toList == [112, 117, 98, 108, 105, 115, 104, 101, 114]) then e.pu else if (f.toList == [100, 97, 116, 101]) then dtT e.y e.m e.d e.ci else if (f.toList == [118, 111, 108, 117, 109, 101]) then volT e.vol else if (f.toList == [112, 97, 103, 101, 115]) then e.pa else ⟨#[]⟩
/-- is there such a field -/
def isFld (f : ByteArray) : Bool := (f.toList == [97, 117, 116, 104, 111, 114, 115]) || (f.toList == [101, 100, 105, 116, 111, 114, 115]) || (f.toList == [116, 105, 116, 108, 101]) || (f.toList == [99, 111, 110, 116, 97, 105, 110, 101, 114]) || (f.toList == [112, 117, 98, 108, 105, 115, 104, 101, 114]) || (f.toList == [100, 97, 116, 101]) || (f.toList == [118, 111, 108, 117, 109, 101]) || (f.toList == [112, 97, 103, 101, 115])
/-- the names' words lie in slices that reach over them -/
def _root_.Go.Proofs.YtnekhfajolgjpaaGreatDoor.Ens.En.Cp (x : En) : Prop := (∀ y ∈ x.auL, y.n ≤ y.c) ∧ (∀ y ∈ x.edL, y.n ≤ y.c)
theorem ok_parts {e : En} (h : okE e = true) : okL e.auL = true ∧ okL e.edL = true ∧ DtPl.okB e.y e.m e.d e.ci = true ∧ (0 ≤ e.vol ∧ e.vol ≤ 9999) ∧ (1 ≤ e.kind ∧ e.kind ≤ 4) ∧ textB e.ti = true ∧ textB e.co = true ∧ textB e.pu = true ∧ textB e.pa = true ∧ keyB e.key = true ∧ crB e.key e.cr = true := by
  unfold okE at h
  simp only [Bool.and_eq_true, decide_eq_true_eq] at h
  obtain ⟨h1, h2, h3, h4, h5, h6, h7, h8, h9, h10, h11⟩ := h
  exact ⟨h3, h4, h9, h10, h2, h5, h6, h7, h8, h1, h11⟩
theorem below_q {w w1 : World} (h : ∃ q, w1 = w.drewN q) : Below w.heap.size w w1 := by
  obtain ⟨q, rfl⟩ := h
  exact ⟨rfl, rfl, rfl, Nat.le_refl _, fun _ _ => rfl⟩
set_option maxHeartbeats 1000000 in
theorem volumeText (v : Int) (w : World) (h0 : 0 ≤ v) (h1 : v ≤ 9999) (ht : Tab w) :
    Calls Tryz.prog 69 #[.int .i64 v] w fun e w' => e = .returned (.string (volT v)) ∧ Below w.heap.size w w' := by
  have HI := Lib.hid (Tryz.strconv_Itoa v (by omega) (by omega) w ht)
  clear ht
  by_cases hz : v = 0
  · subst hz
    go_enter Tryz.func69, Tryz.ntmps69
    go_wp2_with fail
    go_ret
    exact ⟨rfl, Below.refl _ _⟩
  · have HV : Hid (volT v = ba (Lib.itoa v)) := Lib.hid (if_neg hz)
    have hd : decide (v = 0) = false := by simpa using hz
    have hd' : (v == 0) = false := by simpa using hz
    clear hz
    go_enter Tryz.func69, Tryz.ntmps69
    go_wp2_with fail
    refine HI.out.mono ?_
    rintro e w1 ⟨rfl, k, os, rfl⟩
    have b1 := Num.grow_below w k os
    go_wp2_with fail
    go_ret
    exact ⟨by rw [HV.out]; rfl, b1⟩
set_option maxHeartbeats 1000000 in
theorem knownDate (y m d : Int) (c : Bool) (w : World) (hv : DtPl.okB y m d c = true) (ht : Tab w) :
    Calls Tryz.prog 68 #[.agg #[.int .i64 y, .int .i64 m, .int .i64 d, .bool c]] w fun e w' => e = .returned (.string (dtT y m d c)) ∧ Below w.heap.size w w' := by
  have hz := DtPl.ok_zero hv
  have hbd := DtPl.ok_bd hv
  obtain ⟨y, rfl⟩ := Int.eq_ofNat_of_zero_le hbd.1
  obtain ⟨m, rfl⟩ := Int.eq_ofNat_of_zero_le hbd.2.2.1
  obtain ⟨d, rfl⟩ := Int.eq_ofNat_of_zero_le hbd.2.2.2.2.1
  have HT := Lib.hid (fun w' (hb : Below w.heap.size w w') => DtF.iText y m d c w' hv (ht.below hb))
  have HU := Lib.hid (fun w' => Dt.isUnknown y m d c _ w' hz)
  clear hz hv ht
  by_cases h0 : (y : Int) = 0
  · have HV : Hid (dtT y m d c = ⟨#[]⟩) := Lib.hid (if_pos h0)
    rw [decide_eq_true h0] at HU
    clear h0
    go_enter Tryz.func68, Tryz.ntmps68
    go_wp2_with fail
    refine (HU.out _).mono ?_
    rintro e w1 ⟨rfl, b1⟩
    go_wp2_with fail
    go_ret
    exact ⟨by rw [HV.out]; rfl, (Dt.box_below _ _).trans (b1.mono (Dt.box_below _ _).size)⟩
  · have HV : Hid (dtT y m d c = ba (DtTx.text y m d c)) := Lib.hid (if_neg h0)
    rw [decide_eq_false h0] at HU
    clear h0
    go_enter Tryz.func68, Tryz.ntmps68
    go_wp2_with fail
    refine (HU.out _).mono ?_
    rintro e w1 ⟨rfl, b1⟩
    have HB1 := Lib.hid ((Dt.box_below w (.cells #[.int .i64 y, .int .i64 m, .int .i64 d, .bool c] 31)).trans (b1.mono (Dt.box_below w (.cells #[.int .i64 y, .int .i64 m, .int .i64 d, .bool c] 31)).size))
    obtain ⟨x0, x1, x2, x3⟩ : (w1.cell? ⟨w.heap.size, 0, none⟩ = some (.int .i64 y) ∧ w1.cell? ⟨w.heap.size, 1, none⟩ = some (.int .i64 m) ∧ w1.cell? ⟨w.heap.size, 2, none⟩ = some (.int .i64 d) ∧ w1.cell? ⟨w.heap.size, 3, none⟩ = some (.bool c)) := by
      refine ⟨(b1.cell (p := ⟨w.heap.size, 0, none⟩) (by simp)).trans (by simp), (b1.cell (p := ⟨w.heap.size, 1, none⟩) (by simp)).trans (by simp), (b1.cell (p := ⟨w.heap.size, 2, none⟩) (by simp)).trans (by simp), (b1.cell (p := ⟨w.heap.size, 3, none⟩) (by simp)).trans (by simp)⟩
    clear b1
    go_wp2_with fail
    refine (HT.out _ HB1.out).mono ?_
    rintro e w2 ⟨rfl, b2⟩
    go_wp2_with fail
    go_ret
    exact ⟨by rw [HV.out]; rfl, HB1.out.trans (b2.mono HB1.out.size)⟩
theorem okL_le {L : List Nm} (h : okL L = true) : L.length ≤ 4 ∧ ∀ x ∈ L, x.ok = true := okL_yes h
theorem ret_str {a b : ByteArray} (h : a = b) : Ending.returned (.string a) = .returned (.string b) := by rw [h]
theorem ret_sb {a b : ByteArray} {x y : Bool} (h : a = b ∧ x = y) : Ending.returned (.tuple #[.string a, .bool x]) = .returned (.tuple #[.string b, .bool y]) := by rw [h.1, h.2]
theorem sDate (y m d : Int) (c : Bool) (w : World) (hv : DtPl.okB y m d c = true) :
    Calls Tryz.prog 52 #[.agg #[.int .i64 y, .int .i64 m, .int .i64 d, .bool c]] w fun e w' => e = .returned (.string (ba (DtTx.text y m d c))) ∧ Below w.heap.size w w' := by
  have hbd := DtPl.ok_bd hv
  obtain ⟨y, rfl⟩ := Int.eq_ofNat_of_zero_le hbd.1
  obtain ⟨m, rfl⟩ := Int.eq_ofNat_of_zero_le hbd.2.2.1
  obtain ⟨d, rfl⟩ := Int.eq_ofNat_of_zero_le hbd.2.2.2.2.1
  exact DtF.sText y m d c w hv

set_option maxRecDepth 100000 in
set_option maxHeartbeats 16000000 in
theorem fieldText_any (key : ByteArray) (kind : Int) (auA : Option Addr) (auN auc : Nat) (auL : List Nm) (edA : Option Addr) (edN edc : Nat) (edL : List Nm) (ti : ByteArray) (co : ByteArray) (pu : ByteArray) (y : Int) (m : Int) (d : Int) (ci : Bool) (vol : Int) (pa : ByteArray) (cr : ByteArray) (f : ByteArray) (w : World) (hr : (⟨key, kind, auA, auN, auc, auL, edA, edN, edc, edL, ti, co, pu, y, m, d, ci, vol, pa, cr⟩ : En).Rd w) (hcp : (⟨key, kind, auA, auN, auc, auL, edA, edN, edc, edL, ti, co, pu, y, m, d, ci, vol, pa, cr⟩ : En).Cp) (hok : okE (⟨key, kind, auA, auN, auc, auL, edA, edN, edc, edL, ti, co, pu, y, m, d, ci, vol, pa, cr⟩ : En) = true) (ht : Tab w) :
    Calls Tryz.prog 42 #[.agg #[.string key, .int .i64 kind, .slice auA auN auc, .slice edA edN edc, .string ti, .string co, .string pu, .int .i64 y, .int .i64 m, .int .i64 d, .bool ci, .int .i64 vol, .string pa, .string cr], .string f] w fun e w' => e = .returned (.string (fldS (⟨key, kind, auA, auN, auc, auL, edA, edN, edc, edL, ti, co, pu, y, m, d, ci, vol, pa, cr⟩ : En) f)) ∧ Below w.heap.size w w' := by
  obtain ⟨p1, p2, p3, p4, -⟩ := ok_parts hok
  dsimp only at p1 p2 p3 p4
  have q1 : auN ≤ 4 := by have h1 := (okL_le p1).1; have h2 : auL.length = auN := hr.2.1; omega
  have q2 : edN ≤ 4 := by have h1 := (okL_le p2).1; have h2 : edL.length = edN := hr.2.2.2; omega
  have HB := Lib.hid ((Below.refl _ w).alloc (Nat.le_refl _) (.cells #[.string key, .int .i64 kind, .slice auA auN auc, .slice edA edN edc, .string ti, .string co, .string pu, .int .i64 y, .int .i64 m, .int .i64 d, .bool ci, .int .i64 vol, .string pa, .string cr] 33))
  have HT := Lib.hid ht
  have HA := Lib.hid (fun w' (hk : Below w.heap.size w w') => namesText auA auc auN auL w' (hr.1.below hk) hr.2.1 q1 hcp.1 (okL_le p1).2)
  have HE := Lib.hid (fun w' (hk : Below w.heap.size w w') => namesText edA edc edN edL w' (hr.2.2.1.below hk) hr.2.2.2 q2 hcp.2 (okL_le p2).2)
  have HD := Lib.hid (fun w' (hk : Below w.heap.size w w') => knownDate y m d ci w' p3 (ht.below hk))
  have HV := Lib.hid (fun w' (hk : Below w.heap.size w w') => volumeText vol w' p4.1 p4.2 (ht.below hk))
  clear hr hcp hok ht p1 p2 p3 p4 q1 q2
  go_enter Tryz.func42, Tryz.ntmps42
  go_wp2_with (first
    | ((with_reducible refine (HA.out _ HB.out).mono ?_); rintro e w1 ⟨rfl, b1⟩)
    | ((with_reducible refine (HE.out _ HB.out).mono ?_); rintro e w1 ⟨rfl, b1⟩)
    | ((with_reducible refine (HD.out _ HB.out).mono ?_); rintro e w1 ⟨rfl, b1⟩)
    | ((with_reducible refine (HV.out _ HB.out).mono ?_); rintro e w1 ⟨rfl, b1⟩))
  all_goals
    first
      | (go_ret; exact ⟨ret_str (by first | (rename_i ht; have ht' := eq_of_beq ht; simp [fldS, ht']; done) | simp [fldS, *]), HB.out.trans (b1.mono HB.out.size)⟩)
      | (go_ret; exact ⟨ret_str (by first | (rename_i ht; have ht' := eq_of_beq ht; simp [fldS, ht']; done) | simp [fldS, *]), HB.out⟩)

set_option maxRecDepth 100000 in
set_option maxHeartbeats 16000000 in
theorem l4Field_any (key : ByteArray) (kind : Int) (auA : Option Addr) (auN auc : Nat) (auL : List Nm) (edA : Option Addr) (edN edc : Nat) (edL : List Nm) (ti : ByteArray) (co : ByteArray) (pu : ByteArray) (y : Int) (m : Int) (d : Int) (ci : Bool) (vol : Int) (pa : ByteArray) (cr : ByteArray) (f : ByteArray) (w : World) (hr : (⟨key, kind, auA, auN, auc, auL, edA, edN, edc, edL, ti, co, pu, y, m, d, ci, vol, pa, cr⟩ : En).Rd w) (hok : okE (⟨key, kind, auA, auN, auc, auL, edA, edN, edc, edL, ti, co, pu, y, m, d, ci, vol, pa, cr⟩ : En) = true) :
    Calls Tryz.prog 31 #[.agg #[.string key, .int .i64 kind, .slice auA auN auc, .slice edA edN edc, .string ti, .string co, .string pu, .int .i64 y, .int .i64 m, .int .i64 d, .bool ci, .int .i64 vol, .string pa, .string cr], .string f] w fun e w' => e = .returned (.tuple #[.string (fldS (⟨key, kind, auA, auN, auc, auL, edA, edN, edc, edL, ti, co, pu, y, m, d, ci, vol, pa, cr⟩ : En) f), .bool (isFld f)]) ∧ Below w.heap.size w w' := by
  obtain ⟨p1, p2, p3, p4, -⟩ := ok_parts hok
  dsimp only at p1 p2 p3 p4
  have q1 : auN ≤ 4 := by have h1 := (okL_le p1).1; have h2 : auL.length = auN := hr.2.1; omega
  have q2 : edN ≤ 4 := by have h1 := (okL_le p2).1; have h2 : edL.length = edN := hr.2.2.2; omega
  have HB := Lib.hid ((Below.refl _ w).alloc (Nat.le_refl _) (.cells #[.string key, .int .i64 kind, .slice auA auN auc, .slice edA edN edc, .string ti, .string co, .string pu, .int .i64 y, .int .i64 m, .int .i64 d, .bool ci, .int .i64 vol, .string pa, .string cr] 33))
  have HA := Lib.hid (fun w' (hk : Below w.heap.size w w') => l4Names auA auc auN auL w' (hr.1.below hk) hr.2.1 q1 (okL_le p1).2)
  have HE := Lib.hid (fun w' (hk : Below w.heap.size w w') => l4Names edA edc edN edL w' (hr.2.2.1.below hk) hr.2.2.2 q2 (okL_le p2).2)
  have HD := Lib.hid (fun w' => sDate y m d ci w' p3)
  have HV := Lib.hid (fun w' => (Num.l1Num_any vol w' (by omega) (by omega)).mono (fun e w2 h => (⟨h.1, below_q h.2⟩ : e = .returned (.string (ba (Lib.itoa vol))) ∧ Below w'.heap.size w' w2)))
  clear hr hok p1 p2 p3 p4 q1 q2
  go_enter Tryz.func31, Tryz.ntmps31
  go_wp2_with (first
    | ((with_reducible refine (HA.out _ HB.out).mono ?_); rintro e w1 ⟨rfl, b1⟩)
    | ((with_reducible refine (HE.out _ HB.out).mono ?_); rintro e w1 ⟨rfl, b1⟩)
    | ((with_reducible refine (HD.out _).mono ?_); rintro e w1 ⟨rfl, b1⟩)
    | ((with_reducible refine (HV.out _).mono ?_); rintro e w1 ⟨rfl, b1⟩))
  all_goals
    first
      | (go_ret2; exact ⟨ret_sb (by first | (rename_i ht; have ht' := eq_of_beq ht; simp [fldS, isFld, ht']; done) | (rename_i ht _ _ hy; have ht' := eq_of_beq ht; have hy' := eq_of_beq hy; simp [fldS, isFld, dtT, volT, ht', hy']; done) | (rename_i ht _ _ hy; have ht' := eq_of_beq ht; have hy' := ne_of_beq_false hy; simp [fldS, isFld, dtT, volT, ht', hy']; done) | (rename_i ht hy; have ht' := eq_of_beq ht; have hy' := ne_of_beq_false hy; simp [fldS, isFld, dtT, volT, ht', hy']; done) | (simp [fldS, isFld, *]; done)), HB.out.trans (b1.mono HB.out.size)⟩)
      | (go_ret2; exact ⟨ret_sb (by first | (rename_i ht; have ht' := eq_of_beq ht; simp [fldS, isFld, ht']; done) | (rename_i ht _ _ hy; have ht' := eq_of_beq ht; have hy' := eq_of_beq hy; simp [fldS, isFld, dtT, volT, ht', hy']; done) | (simp [fldS, isFld, *]; done)), HB.out⟩)
end Go.Proofs.YtnekhfajolgjpaaGreatDoor.Fld
/-
  Contracts of FieldText of both; what an entry says decides its validity and its texts.
-/
namespace Go.Proofs.YtnekhfajolgjpaaGreatDoor.Fld
open Go.RowKit Pl Strs Help Name Stands SplitPl NmPl Word Part NGood Forms Nms Jn Kt Ens
open Num (Tab Tab.below)
set_option linter.unusedSimpArgs false
set_option linter.unusedVariables false

theorem all_kk (L : List Nm) : L.all Nm.ok = (L.map Nm.key).all fun k => okN k.1 k.2.1 k.2.2.1 k.2.2.2 := by
  rw [List.all_map]; rfl
theorem okL_kk {L M : List Nm} (h : L.map Nm.key = M.map Nm.key) : okL L = okL M := by
  unfold okL
  rw [all_kk, all_kk, h, len_of_key h]
theorem szL_kk {L M : List Nm} (h : L.map Nm.key = M.map Nm.key) : szL L = szL M := by
  have e : ∀ K : List Nm, K.map Nm.sz = (K.map Nm.key).map fun k => k.1.length + lens k.1 + k.2.1.size + k.2.2.1.size + k.2.2.2.size := fun K => by rw [List.map_map]; rfl
  unfold szL
  rw [e, e, h]
theorem nmsL_kk {L M : List Nm} (h : L.map Nm.key = M.map Nm.key) : nmsL L = nmsL M := by
  have e : ∀ K : List Nm, invs K = (K.map Nm.key).map fun k => ba (invL k.1 k.2.1 k.2.2.1 k.2.2.2) := fun K => by rw [List.map_map]; rfl
  unfold nmsL
  rw [e, e, h]
theorem key4_parts {x y : En} (h : x.key4 = y.key4) : x.key = y.key ∧ x.kind = y.kind ∧ x.auL.map Nm.key = y.auL.map Nm.key ∧ x.edL.map Nm.key = y.edL.map Nm.key ∧ x.ti = y.ti ∧ x.co = y.co ∧ x.pu = y.pu ∧ x.y = y.y ∧ x.m = y.m ∧ x.d = y.d ∧ x.ci = y.ci ∧ x.vol = y.vol ∧ x.pa = y.pa ∧ x.cr = y.cr := by
  unfold En.key4 at h
  simp only [Prod.mk.injEq] at h
  obtain ⟨h1, h2, h3, h4, h5, h6, h7, ⟨h8, h9, h10, h11⟩, h12, h13, h14⟩ := h
  exact ⟨h1, h2, h3, h4, h5, h6, h7, h8, h9, h10, h11, h12, h13, h14⟩
theorem fldS_kk {x y : En} (f : ByteArray) (h : x.key4 = y.key4) : fldS x f = fldS y f := by
  obtain ⟨h1, h2, h3, h4, h5, h6, h7, h8, h9, h10, h11, h12, h13, h14⟩ := key4_parts h
  unfold fldS
  rw [nmsL_kk h3, nmsL_kk h4, h5, h6, h7, h8, h9, h10, h11, h12, h13]
theorem okE_kk {x y : En} (h : x.key4 = y.key4) : okE x = okE y := by
  obtain ⟨h1, h2, h3, h4, h5, h6, h7, h8, h9, h10, h11, h12, h13, h14⟩ := key4_parts h
  unfold okE
  rw [okL_kk h3, okL_kk h4, h1, h2, h5, h6, h7, h8, h9, h10, h11, h12, h13, h14]
theorem fldS_no (e : En) {f : ByteArray} (h : isFld f = false) : fldS e f = ⟨#[]⟩ := by
  unfold isFld at h
  simp only [Bool.or_eq_false_iff] at h
  obtain ⟨⟨⟨⟨⟨⟨⟨h0, h1⟩, h2⟩, h3⟩, h4⟩, h5⟩, h6⟩, h7⟩ := h
  simp [fldS, h0, h1, h2, h3, h4, h5, h6, h7]
/-- what FieldText answers -/
def ftS (e : En) (f : ByteArray) : ByteArray := if okE e && isFld f then fldS e f else ⟨#[]⟩
def ftB (e : En) (f : ByteArray) : Bool := okE e && isFld f
theorem ftS_kk {x y : En} (f : ByteArray) (h : x.key4 = y.key4) : ftS x f = ftS y f := by
  unfold ftS
  rw [okE_kk h, fldS_kk f h]
theorem ftB_kk {x y : En} (f : ByteArray) (h : x.key4 = y.key4) : ftB x f = ftB y f := by
  unfold ftB
  rw [okE_kk h]
/-- the words of the fields -/
def fws : List ByteArray := [⟨#[97, 117, 116, 104, 111, 114, 115]⟩, ⟨#[101, 100, 105, 116, 111, 114, 115]⟩, ⟨#[116, 105, 116, 108, 101]⟩, ⟨#[99, 111, 110, 116, 97, 105, 110, 101, 114]⟩, ⟨#[112, 117, 98, 108, 105, 115, 104, 101, 114]⟩, ⟨#[100, 97, 116, 101]⟩, ⟨#[118, 111, 108, 117, 109, 101]⟩, ⟨#[112, 97, 103, 101, 115]⟩]
theorem lit_iff (f : ByteArray) (l : List UInt8) : (f.toList == l) = true ↔ f = ⟨l.toArray⟩ := by
  rw [beq_iff_eq, Lib.toList_data]
  constructor
  · intro h
    apply ByteArray.ext
    rw [← h]
  · rintro rfl; rfl
theorem contains_fws (f : ByteArray) : Lib.containsS fws f = isFld f := by
  rw [Bool.eq_iff_iff, Lib.containsS_iff]
  unfold isFld fws
  simp only [Bool.or_eq_true, lit_iff, List.mem_cons, List.not_mem_nil, or_false, or_assoc]
theorem fws_at {w : World} {cs : Array Value} {t : TypeId} (h : cs = (fws.map Value.string).toArray) : ∀ j, j < fws.length → (w.alloc (.cells cs t)).cell? ⟨w.heap.size, j, none⟩ = some (.string (fws.getD j ByteArray.empty)) := by
  intro j hj
  subst h
  have hj' : j < 8 := hj
  simp
  rcases j with _ | _ | _ | _ | _ | _ | _ | _ | j
  all_goals first | rfl | omega
set_option maxHeartbeats 1000000 in
theorem fieldWords (w : World) : Calls Tryz.prog 64 #[] w fun e w' => e = .returned (.slice (some ⟨w.heap.size, 0, none⟩) 8 8) ∧ (∀ j, j < fws.length → w'.cell? ⟨w.heap.size, j, none⟩ = some (.string (fws.getD j ByteArray.empty))) ∧ w'.ownsRow w.heap.size 9 1 (.slice (some ⟨w.heap.size, 0, none⟩) 8 8) 8 (fws.map Value.string) ∧ Below w.heap.size w w' := by
  go_enter Tryz.func64, Tryz.ntmps64
  go_wp2_with fail
  go_ret
  refine ⟨rfl, fws_at rfl, ?_, (Below.refl _ w).alloc (Nat.le_refl _) _⟩
  exact World.ownsRow_lit (base := w.heap.size) (e := 9) (size := 1) w (fws.map Value.string).toArray 8 (Nat.le_refl _) (by unfold maxLen; omega) rfl
end Go.Proofs.YtnekhfajolgjpaaGreatDoor.Fld
