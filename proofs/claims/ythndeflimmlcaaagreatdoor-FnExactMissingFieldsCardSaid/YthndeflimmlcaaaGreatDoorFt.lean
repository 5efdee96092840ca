/-
  Contracts of FieldText of both; what an entry says decides its validity and its texts.
-/
import Derived.Test.YthndeflimmlcaaaGreatDoorFv
import Derived.Test.YthndeflimmlcaaaGreatDoorVei
import Derived.Test.YthndeflimmlcaaaGreatDoorShelf2
namespace Go.Proofs.YthndeflimmlcaaaGreatDoor.Fld
open Go.RowKit Pl Strs Help Name Stands SplitPl NmPl Word Part NGood Forms Nms Jn Kt Ens
open Num (Tab Tab.below)
set_option linter.unusedSimpArgs false
set_option linter.unusedVariables false

theorem all_kk (L : List Nm) : L.all Nm.ok = (L.map Nm.key).all fun k => okN k.1 k.2.1 k.2.2.1 k.2.2.2 := by
  rw [List.all_map]; rfl
theorem okL_kk {L M : List Nm} (h : L.map Nm.key = M.map Nm.key) : okL L = okL M := by
  unfold okL
  rw [all_kk, all_kk, h, len_of_key h]
theorem szL_kk {L M : List Nm} (h : L.map Nm.key = M.map Nm.key) : szL L = szL M := by
  have e : ∀ K : List Nm, K.map Nm.sz = (K.map Nm.key).map fun k => k.1.length + lens k.1 + k.2.1.size + k.2.2.1.size + k.2.2.2.size := fun K => by rw [List.map_map]; rfl
  unfold szL
  rw [e, e, h]
theorem nmsL_kk {L M : List Nm} (h : L.map Nm.key = M.map Nm.key) : nmsL L = nmsL M := by
  have e : ∀ K : List Nm, invs K = (K.map Nm.key).map fun k => ba (invL k.1 k.2.1 k.2.2.1 k.2.2.2) := fun K => by rw [List.map_map]; rfl
  unfold nmsL
  rw [e, e, h]
theorem key4_parts {x y : En} (h : x.key4 = y.key4) : x.key = y.key ∧ x.kind = y.kind ∧ x.auL.map Nm.key = y.auL.map Nm.key ∧ x.edL.map Nm.key = y.edL.map Nm.key ∧ x.ti = y.ti ∧ x.co = y.co ∧ x.pu = y.pu ∧ x.y = y.y ∧ x.m = y.m ∧ x.d = y.d ∧ x.ci = y.ci ∧ x.vol = y.vol ∧ x.pa = y.pa ∧ x.cr = y.cr := by
  unfold En.key4 at h
  simp only [Prod.mk.injEq] at h
  obtain ⟨h1, h2, h3, h4, h5, h6, h7, ⟨h8, h9, h10, h11⟩, h12, h13, h14⟩ := h
  exact ⟨h1, h2, h3, h4, h5, h6, h7, h8, h9, h10, h11, h12, h13, h14⟩
theorem fldS_kk {x y : En} (f : ByteArray) (h : x.key4 = y.key4) : fldS x f = fldS y f := by
  obtain ⟨h1, h2, h3, h4, h5, h6, h7, h8, h9, h10, h11, h12, h13, h14⟩ := key4_parts h
  unfold fldS
  rw [nmsL_kk h3, nmsL_kk h4, h5, h6, h7, h8, h9, h10, h11, h12, h13]
theorem okE_kk {x y : En} (h : x.key4 = y.key4) : okE x = okE y := by
  obtain ⟨h1, h2, h3, h4, h5, h6, h7, h8, h9, h10, h11, h12, h13, h14⟩ := key4_parts h
  unfold okE
  rw [okL_kk h3, okL_kk h4, h1, h2, h5, h6, h7, h8, h9, h10, h11, h12, h13, h14]
theorem fldS_no (e : En) {f : ByteArray} (h : isFld f = false) : fldS e f = ⟨#[]⟩ := by
  unfold isFld at h
  simp only [Bool.or_eq_false_iff] at h
  obtain ⟨⟨⟨⟨⟨⟨⟨h0, h1⟩, h2⟩, h3⟩, h4⟩, h5⟩, h6⟩, h7⟩ := h
  simp [fldS, h0, h1, h2, h3, h4, h5, h6, h7]
/-- what FieldText answers -/
def ftS (e : En) (f : ByteArray) : ByteArray := if okE e && isFld f then fldS e f else ⟨#[]⟩
def ftB (e : En) (f : ByteArray) : Bool := okE e && isFld f
theorem ftS_kk {x y : En} (f : ByteArray) (h : x.key4 = y.key4) : ftS x f = ftS y f := by
  unfold ftS
  rw [okE_kk h, fldS_kk f h]
theorem ftB_kk {x y : En} (f : ByteArray) (h : x.key4 = y.key4) : ftB x f = ftB y f := by
  unfold ftB
  rw [okE_kk h]
/-- the words of the fields -/
def fws : List ByteArray := [⟨#[97, 117, 116, 104, 111, 114, 115]⟩, ⟨#[101, 100, 105, 116, 111, 114, 115]⟩, ⟨#[116, 105, 116, 108, 101]⟩, ⟨#[99, 111, 110, 116, 97, 105, 110, 101, 114]⟩, ⟨#[112, 117, 98, 108, 105, 115, 104, 101, 114]⟩, ⟨#[100, 97, 116, 101]⟩, ⟨#[118, 111, 108, 117, 109, 101]⟩, ⟨#[112, 97, 103, 101, 115]⟩]
theorem lit_iff (f : ByteArray) (l : List UInt8) : (f.toList == l) = true ↔ f = ⟨l.toArray⟩ := by
  rw [beq_iff_eq, Lib.toList_data]
  constructor
  · intro h
    apply ByteArray.ext
    rw [← h]
  · rintro rfl; rfl
theorem contains_fws (f : ByteArray) : Lib.containsS fws f = isFld f := by
  rw [Bool.eq_iff_iff, Lib.containsS_iff]
  unfold isFld fws
  simp only [Bool.or_eq_true, lit_iff, List.mem_cons, List.not_mem_nil, or_false, or_assoc]
theorem fws_at {w : World} {cs : Array Value} {t : TypeId} (h : cs = (fws.map Value.string).toArray) : ∀ j, j < fws.length → (w.alloc (.cells cs t)).cell? ⟨w.heap.size, j, none⟩ = some (.string (fws.getD j ByteArray.empty)) := by
  intro j hj
  subst h
  have hj' : j < 8 := hj
  simp
  rcases j with _ | _ | _ | _ | _ | _ | _ | _ | j
  all_goals first | rfl | omega
set_option maxHeartbeats 1000000 in
theorem fieldWords (w : World) : Calls Tryz.prog 81 #[] w fun e w' => e = .returned (.slice (some ⟨w.heap.size, 0, none⟩) 8 8) ∧ (∀ j, j < fws.length → w'.cell? ⟨w.heap.size, j, none⟩ = some (.string (fws.getD j ByteArray.empty))) ∧ w'.ownsRow w.heap.size 9 1 (.slice (some ⟨w.heap.size, 0, none⟩) 8 8) 8 (fws.map Value.string) ∧ Below w.heap.size w w' := by
  go_enter Tryz.func81, Tryz.ntmps81
  go_wp2_with fail
  go_ret
  refine ⟨rfl, fws_at rfl, ?_, (Below.refl _ w).alloc (Nat.le_refl _) _⟩
  exact World.ownsRow_lit (base := w.heap.size) (e := 9) (size := 1) w (fws.map Value.string).toArray 8 (Nat.le_refl _) (by unfold maxLen; omega) rfl
set_option maxRecDepth 100000 in
set_option maxHeartbeats 4000000 in
theorem sField (key : ByteArray) (kind : Int) (auA : Option Addr) (auN auc : Nat) (auL : List Nm) (edA : Option Addr) (edN edc : Nat) (edL : List Nm) (ti : ByteArray) (co : ByteArray) (pu : ByteArray) (y : Int) (m : Int) (d : Int) (ci : Bool) (vol : Int) (pa : ByteArray) (cr : ByteArray) (f : ByteArray) (w : World) (hr : (⟨key, kind, auA, auN, auc, auL, edA, edN, edc, edL, ti, co, pu, y, m, d, ci, vol, pa, cr⟩ : En).Rd w) (hz : (⟨key, kind, auA, auN, auc, auL, edA, edN, edc, edL, ti, co, pu, y, m, d, ci, vol, pa, cr⟩ : En).sz ≤ 1048576) :
    Calls Tryz.prog 28 #[.agg #[.string key, .int .i64 kind, .slice auA auN auc, .slice edA edN edc, .string ti, .string co, .string pu, .int .i64 y, .int .i64 m, .int .i64 d, .bool ci, .int .i64 vol, .string pa, .string cr], .string f] w fun e w' => e = .returned (.tuple #[.string (ftS (⟨key, kind, auA, auN, auc, auL, edA, edN, edc, edL, ti, co, pu, y, m, d, ci, vol, pa, cr⟩ : En) f), .bool (ftB (⟨key, kind, auA, auN, auc, auL, edA, edN, edc, edL, ti, co, pu, y, m, d, ci, vol, pa, cr⟩ : En) f)]) ∧ Below w.heap.size w w' := by
  have HB := Lib.hid ((Below.refl _ w).alloc (Nat.le_refl _) (.cells #[.string key, .int .i64 kind, .slice auA auN auc, .slice edA edN edc, .string ti, .string co, .string pu, .int .i64 y, .int .i64 m, .int .i64 d, .bool ci, .int .i64 vol, .string pa, .string cr] 34))
  have HX := Lib.hid (E14.new w (⟨key, kind, auA, auN, auc, auL, edA, edN, edc, edL, ti, co, pu, y, m, d, ci, vol, pa, cr⟩ : En) 34)
  have HV := Lib.hid (l4Entry_any key kind auA auN auc auL edA edN edc edL ti co pu y m d ci vol pa cr _ (hr.below HB.out) hz)
  cases hok : okE (⟨key, kind, auA, auN, auc, auL, edA, edN, edc, edL, ti, co, pu, y, m, d, ci, vol, pa, cr⟩ : En) with
  | false =>
    rw [hok] at HV
    have HF : Hid (ftS (⟨key, kind, auA, auN, auc, auL, edA, edN, edc, edL, ti, co, pu, y, m, d, ci, vol, pa, cr⟩ : En) f = ⟨#[]⟩ ∧ ftB (⟨key, kind, auA, auN, auc, auL, edA, edN, edc, edL, ti, co, pu, y, m, d, ci, vol, pa, cr⟩ : En) f = false) := Lib.hid (by unfold ftS ftB; rw [hok]; exact ⟨rfl, rfl⟩)
    clear hr hz hok HX
    go_enter Tryz.func28, Tryz.ntmps28
    go_wp2_with fail
    refine HV.out.mono ?_
    rintro e w1 ⟨rfl, b1⟩
    go_wp2_with fail
    go_ret2
    exact ⟨by rw [HF.out.1, HF.out.2]; rfl, HB.out.trans (b1.mono HB.out.size)⟩
  | true =>
    rw [hok] at HV
    have HF : Hid (ftS (⟨key, kind, auA, auN, auc, auL, edA, edN, edc, edL, ti, co, pu, y, m, d, ci, vol, pa, cr⟩ : En) f = fldS (⟨key, kind, auA, auN, auc, auL, edA, edN, edc, edL, ti, co, pu, y, m, d, ci, vol, pa, cr⟩ : En) f ∧ ftB (⟨key, kind, auA, auN, auc, auL, edA, edN, edc, edL, ti, co, pu, y, m, d, ci, vol, pa, cr⟩ : En) f = isFld f) := Lib.hid (by
      unfold ftS ftB; rw [hok]
      refine ⟨?_, rfl⟩
      cases hf : isFld f with
      | true => rfl
      | false => exact (fldS_no _ hf).symm)
    have HW := Lib.hid (fun w' (hk : Below w.heap.size w w') => l4Field_any key kind auA auN auc auL edA edN edc edL ti co pu y m d ci vol pa cr f w' (hr.below hk) hok)
    clear hr hz hok
    generalize fldS (⟨key, kind, auA, auN, auc, auL, edA, edN, edc, edL, ti, co, pu, y, m, d, ci, vol, pa, cr⟩ : En) f = t at *
    generalize isFld f = r at *
    go_enter Tryz.func28, Tryz.ntmps28
    go_wp2_with fail
    generalize w.alloc _ = w0 at HB HX HV ⊢
    refine HV.out.mono ?_
    rintro e w1 ⟨rfl, b1⟩
    have k1 := HB.out.trans (b1.mono HB.out.size)
    obtain ⟨hl, c0, c1, c2, c3, c4, c5, c6, c7, c8, c9, c10, c11, c12, c13⟩ := HX.out.below b1
    dsimp only at c0 c1 c2 c3 c4 c5 c6 c7 c8 c9 c10 c11 c12 c13
    clear b1 HV HX
    go_wp2_with fail
    refine (HW.out _ k1).mono ?_
    rintro e w2 ⟨rfl, b2⟩
    go_wp2_with fail
    go_ret2
    exact ⟨by rw [HF.out.1, HF.out.2]; rfl, k1.trans (b2.mono k1.size)⟩
set_option maxRecDepth 100000 in
set_option maxHeartbeats 8000000 in
theorem iField (key : ByteArray) (kind : Int) (auA : Option Addr) (auN auc : Nat) (auL : List Nm) (edA : Option Addr) (edN edc : Nat) (edL : List Nm) (ti : ByteArray) (co : ByteArray) (pu : ByteArray) (y : Int) (m : Int) (d : Int) (ci : Bool) (vol : Int) (pa : ByteArray) (cr : ByteArray) (f : ByteArray) (w : World) (hr : (⟨key, kind, auA, auN, auc, auL, edA, edN, edc, edL, ti, co, pu, y, m, d, ci, vol, pa, cr⟩ : En).Rd w) (hz : (⟨key, kind, auA, auN, auc, auL, edA, edN, edc, edL, ti, co, pu, y, m, d, ci, vol, pa, cr⟩ : En).sz ≤ 1048576) (hcp : (⟨key, kind, auA, auN, auc, auL, edA, edN, edc, edL, ti, co, pu, y, m, d, ci, vol, pa, cr⟩ : En).Cp) (ht : Tab w) :
    Calls Tryz.prog 29 #[.agg #[.string key, .int .i64 kind, .slice auA auN auc, .slice edA edN edc, .string ti, .string co, .string pu, .int .i64 y, .int .i64 m, .int .i64 d, .bool ci, .int .i64 vol, .string pa, .string cr], .string f] w fun e w' => e = .returned (.tuple #[.string (ftS (⟨key, kind, auA, auN, auc, auL, edA, edN, edc, edL, ti, co, pu, y, m, d, ci, vol, pa, cr⟩ : En) f), .bool (ftB (⟨key, kind, auA, auN, auc, auL, edA, edN, edc, edL, ti, co, pu, y, m, d, ci, vol, pa, cr⟩ : En) f)]) ∧ Below w.heap.size w w' := by
  have HB := Lib.hid ((Below.refl _ w).alloc (Nat.le_refl _) (.cells #[.string key, .int .i64 kind, .slice auA auN auc, .slice edA edN edc, .string ti, .string co, .string pu, .int .i64 y, .int .i64 m, .int .i64 d, .bool ci, .int .i64 vol, .string pa, .string cr] 34))
  have HX := Lib.hid (E14.new w (⟨key, kind, auA, auN, auc, auL, edA, edN, edc, edL, ti, co, pu, y, m, d, ci, vol, pa, cr⟩ : En) 34)
  have HV := Lib.hid (isValidE_any key kind auA auN auc auL edA edN edc edL ti co pu y m d ci vol pa cr _ (hr.below HB.out) hz)
  cases hok : okE (⟨key, kind, auA, auN, auc, auL, edA, edN, edc, edL, ti, co, pu, y, m, d, ci, vol, pa, cr⟩ : En) with
  | false =>
    rw [hok] at HV
    have HF : Hid (ftS (⟨key, kind, auA, auN, auc, auL, edA, edN, edc, edL, ti, co, pu, y, m, d, ci, vol, pa, cr⟩ : En) f = ⟨#[]⟩ ∧ ftB (⟨key, kind, auA, auN, auc, auL, edA, edN, edc, edL, ti, co, pu, y, m, d, ci, vol, pa, cr⟩ : En) f = false) := Lib.hid (by unfold ftS ftB; rw [hok]; exact ⟨rfl, rfl⟩)
    clear hr hz hok HX hcp ht
    go_enter Tryz.func29, Tryz.ntmps29
    go_wp2_with fail
    refine HV.out.mono ?_
    rintro e w1 ⟨rfl, b1⟩
    go_wp2_with fail
    go_ret2
    exact ⟨by rw [HF.out.1, HF.out.2]; rfl, HB.out.trans (b1.mono HB.out.size)⟩
  | true =>
    rw [hok] at HV
    have HW := Lib.hid (fun w' (hk : Below w.heap.size w w') => fieldText_any key kind auA auN auc auL edA edN edc edL ti co pu y m d ci vol pa cr f w' (hr.below hk) hcp hok (ht.below hk))
    cases hf : isFld f with
    | false =>
      have HF : Hid (ftS (⟨key, kind, auA, auN, auc, auL, edA, edN, edc, edL, ti, co, pu, y, m, d, ci, vol, pa, cr⟩ : En) f = ⟨#[]⟩ ∧ ftB (⟨key, kind, auA, auN, auc, auL, edA, edN, edc, edL, ti, co, pu, y, m, d, ci, vol, pa, cr⟩ : En) f = false) := Lib.hid (by unfold ftS ftB; rw [hok, hf]; exact ⟨rfl, rfl⟩)
      have HC : Hid (Lib.containsS (fws.take 8) f = false) := Lib.hid ((contains_fws f).trans hf)
      clear hr hz hok hcp ht hf HW HX
      go_enter Tryz.func29, Tryz.ntmps29
      go_wp2_with fail
      generalize w.alloc _ = w0 at HB HV ⊢
      refine HV.out.mono ?_
      rintro e w1 ⟨rfl, b1⟩
      have k1 := HB.out.trans (b1.mono HB.out.size)
      clear b1 HV
      go_wp2_with fail
      refine (fieldWords _).mono ?_
      rintro e w2 ⟨rfl, hc, -, b2⟩
      have HS := Lib.hid (Tryz.slices_Contains_string w1.heap.size 0 8 8 fws f w2 (by decide) (by decide) (by simpa using hc))
      rw [HC.out] at HS
      have k2 := k1.trans (b2.mono k1.size)
      clear hc b2
      go_wp2_with fail
      refine HS.out.mono ?_
      rintro e w3 ⟨rfl, rfl⟩
      go_wp2_with fail
      go_ret2
      exact ⟨by rw [HF.out.1, HF.out.2]; rfl, k2⟩
    | true =>
      have HF : Hid (ftS (⟨key, kind, auA, auN, auc, auL, edA, edN, edc, edL, ti, co, pu, y, m, d, ci, vol, pa, cr⟩ : En) f = fldS (⟨key, kind, auA, auN, auc, auL, edA, edN, edc, edL, ti, co, pu, y, m, d, ci, vol, pa, cr⟩ : En) f ∧ ftB (⟨key, kind, auA, auN, auc, auL, edA, edN, edc, edL, ti, co, pu, y, m, d, ci, vol, pa, cr⟩ : En) f = true) := Lib.hid (by unfold ftS ftB; rw [hok, hf]; exact ⟨rfl, rfl⟩)
      have HC : Hid (Lib.containsS (fws.take 8) f = true) := Lib.hid ((contains_fws f).trans hf)
      clear hr hz hok hcp ht hf
      generalize fldS (⟨key, kind, auA, auN, auc, auL, edA, edN, edc, edL, ti, co, pu, y, m, d, ci, vol, pa, cr⟩ : En) f = t at *
      go_enter Tryz.func29, Tryz.ntmps29
      go_wp2_with fail
      generalize w.alloc _ = w0 at HB HX HV ⊢
      refine HV.out.mono ?_
      rintro e w1 ⟨rfl, b1⟩
      have k1 := HB.out.trans (b1.mono HB.out.size)
      have HX1 := Lib.hid (HX.out.below b1)
      clear b1 HV HX
      go_wp2_with fail
      refine (fieldWords _).mono ?_
      rintro e w2 ⟨rfl, hc, -, b2⟩
      have HS := Lib.hid (Tryz.slices_Contains_string w1.heap.size 0 8 8 fws f w2 (by decide) (by decide) (by simpa using hc))
      rw [HC.out] at HS
      have k2 := k1.trans (b2.mono k1.size)
      obtain ⟨hl, c0, c1, c2, c3, c4, c5, c6, c7, c8, c9, c10, c11, c12, c13⟩ := HX1.out.below b2
      dsimp only at c0 c1 c2 c3 c4 c5 c6 c7 c8 c9 c10 c11 c12 c13
      clear hc b2 HX1
      go_wp2_with fail
      refine HS.out.mono ?_
      rintro e w3 ⟨rfl, rfl⟩
      go_wp2_with fail
      refine (HW.out _ k2).mono ?_
      rintro e w4 ⟨rfl, b4⟩
      go_wp2_with fail
      go_ret2
      exact ⟨by rw [HF.out.1, HF.out.2]; rfl, k2.trans (b4.mono k2.size)⟩
end Go.Proofs.YthndeflimmlcaaaGreatDoor.Fld
