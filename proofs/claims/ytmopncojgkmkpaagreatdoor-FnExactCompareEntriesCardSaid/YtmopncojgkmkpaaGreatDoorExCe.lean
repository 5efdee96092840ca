/-
  Proved: for every two entries the law FnExactCompareEntries returns true: CompareEntries answers as its model and leaves its arguments as they were; the arguments read as before. The library's tables and its error lie as the program's text and the pinned constants lay them (the card ties them). No further condition.
-/
import Derived.Test.YtmopncojgkmkpaaGreatDoorRows
import Derived.Test.YtmopncojgkmkpaaGreatDoorGCe
import Derived.Test.YtmopncojgkmkpaaGreatDoorGEn
import Derived.Test.YtmopncojgkmkpaaGreatDoorGOp
import Derived.Lib.LaidCase
import Derived.Lib.LaidU8T
import Derived.Deep.RegionHeld3
import Derived.WalkKit
import Derived.ProofKit
import Derived.OpenShut
import Derived.ShutString
import Derived.ChangeOld
import Derived.Below
import Derived.Lib.SmallJoins
import Derived.Test.YtmopncojgkmkpaaGreatDoorCards
import Derived.Test.YtmopncojgkmkpaaGreatDoorTie
import Derived.LaidMore
import Derived.Lay
import Derived.SevenTiedAt
import Derived.Stop.Joined
namespace Go.Proofs.YtmopncojgkmkpaaGreatDoor.fnExactCompareEntries
open Go.ChangeShapes Go.WideShapes Go.ChangeAt Go.RowKit
open Go.ChangeMaps (open_string shut_string)
open Pl Strs Help Name Stands SplitPl NmPl Word Part NGood Nms Ens CeN Ce Fo FoPl Jn OpenE
set_option linter.unusedVariables false
set_option linter.unusedSimpArgs false

theorem own : ownKnob Tryz.prog.godebug = none := by kernel_rfl
theorem laidOut : laidOutB Tryz.prog = true := by kernel_rfl
theorem caseE : (Rows.laid_unicode_CaseRanges : DataW Unit) = Lib.caseData := by kernel_rfl
theorem firstE : (Rows.laid_unicode_utf8_first : DataW Unit) = Lib.firstData := by kernel_rfl
theorem acceptE : (Rows.laid_unicode_utf8_acceptRanges : DataW Unit) = Lib.acceptData := by kernel_rfl
theorem tabs_of {W : World} (h : laidMet Tryz.prog Rows.fnExactCompareEntriesRow.laid W) : CaT W := by
  have h1 : Lib.VarReads Tryz.prog W "unicode.CaseRanges" Rows.laid_unicode_CaseRanges := Lib.laidMet.reads h (by unfold Rows.fnExactCompareEntriesRow; simp)
  have h2 : Lib.VarReads Tryz.prog W "unicode/utf8.first" Rows.laid_unicode_utf8_first := Lib.laidMet.reads h (by unfold Rows.fnExactCompareEntriesRow; simp)
  have h3 : Lib.VarReads Tryz.prog W "unicode/utf8.acceptRanges" Rows.laid_unicode_utf8_acceptRanges := Lib.laidMet.reads h (by unfold Rows.fnExactCompareEntriesRow; simp)
  rw [caseE] at h1
  rw [firstE] at h2
  rw [acceptE] at h3
  exact ⟨caseVar_of_reads (ρ := Tryz.lays159_ren) { Tryz.lays159 with } (by kernel_rfl) ⟨by kernel_rfl, by kernel_rfl, by kernel_rfl, by kernel_rfl, by kernel_rfl, by kernel_rfl⟩ h1,
    utf8Tabs_of_readsT (ρ := Tryz.lays159_ren) ⟨by kernel_rfl, by kernel_rfl, by kernel_rfl, by kernel_rfl⟩ ⟨by kernel_rfl, by kernel_rfl, by kernel_rfl, by kernel_rfl, by kernel_rfl, by kernel_rfl, by kernel_rfl⟩ h2 h3⟩
theorem all_key' (L : List Nm) : L.all Nm.ok = (L.map Nm.key).all fun k => okN k.1 k.2.1 k.2.2.1 k.2.2.2 := by
  rw [List.all_map]; rfl
theorem okL_k' {L M : List Nm} (h : L.map Nm.key = M.map Nm.key) : okL L = okL M := by
  unfold okL
  rw [all_key', all_key', h, len_of_key h]
theorem szL_k' {L M : List Nm} (h : L.map Nm.key = M.map Nm.key) : szL L = szL M := by
  have e : ∀ K : List Nm, K.map Nm.sz = (K.map Nm.key).map fun k => k.1.length + lens k.1 + k.2.1.size + k.2.2.1.size + k.2.2.2.size := fun K => by rw [List.map_map]; rfl
  unfold szL
  rw [e, e, h]
/-- an entry with its lists of names somewhere else -/
@[reducible] def mv (e : En) (A : Option Addr) (M : List Nm) (B : Option Addr) (K : List Nm) : En := { e with auA := A, auc := e.auN, auL := M, edA := B, edc := e.edN, edL := K }
theorem okE_mv {e : En} {A B : Option Addr} {M K : List Nm} (h1 : M.map Nm.key = e.auL.map Nm.key) (h2 : K.map Nm.key = e.edL.map Nm.key) : okE (mv e A M B K) = okE e := by
  unfold okE; dsimp only [mv]; rw [okL_k' h1, okL_k' h2]
theorem sz_mv {e : En} {A B : Option Addr} {M K : List Nm} (h1 : M.map Nm.key = e.auL.map Nm.key) (h2 : K.map Nm.key = e.edL.map Nm.key) : (mv e A M B K).sz = e.sz := by
  unfold En.sz; dsimp only [mv]; rw [szL_k' h1, szL_k' h2]
theorem main_mv {e : En} {A B : Option Addr} {M K : List Nm} (h1 : M.map Nm.key = e.auL.map Nm.key) (h2 : K.map Nm.key = e.edL.map Nm.key) : (mainL (mv e A M B K)).map Nm.key = (mainL e).map Nm.key := by
  unfold mainL; dsimp only [mv]; split <;> assumption
theorem main_cap {e : En} {A B : Option Addr} {M K : List Nm} (h1 : ∀ x ∈ M, x.n ≤ x.c) (h2 : ∀ x ∈ K, x.n ≤ x.c) : ∀ x ∈ mainL (mv e A M B K), x.n ≤ x.c := by
  unfold mainL; dsimp only [mv]; split <;> assumption
theorem cnX_key {x y x' y' : Nm} (h1 : x.key = x'.key) (h2 : y.key = y'.key) : cnX x y = cnX x' y' := by
  unfold Nm.key at h1 h2
  simp only [Prod.mk.injEq] at h1 h2
  unfold cnX
  rw [h1.1, h1.2.1, h1.2.2.1, h1.2.2.2, h2.1, h2.2.1, h2.2.2.1, h2.2.2.2]
theorem cnL_key : ∀ (L L' M M' : List Nm), L.map Nm.key = L'.map Nm.key → M.map Nm.key = M'.map Nm.key → cnL L M = cnL L' M'
  | [], [], [], [], _, _ => rfl
  | [], [], _ :: _, _ :: _, _, _ => rfl
  | _ :: _, _ :: _, [], [], _, _ => rfl
  | x :: L, x' :: L', y :: M, y' :: M', h1, h2 => by
    simp only [List.map_cons, List.cons.injEq] at h1 h2
    unfold cnL
    rw [cnX_key h1.1 h2.1, cnL_key L L' M M' h1.2 h2.2]
  | [], _ :: _, _, _, h, _ => by cases h
  | _ :: _, [], _, _, h, _ => by cases h
  | [], [], [], _ :: _, _, h => by cases h
  | [], [], _ :: _, [], _, h => by cases h
  | _ :: _, _ :: _, [], _ :: _, _, h => by cases h
  | _ :: _, _ :: _, _ :: _, [], _, h => by cases h
theorem lims (e : En) (w : World) (hr : e.Rd w) (hz : e.sz ≤ 1048576) : e.auN ≤ 1048576 ∧ e.edN ≤ 1048576 ∧ (∀ x ∈ e.auL, x.n ≤ 1048576) ∧ (∀ x ∈ e.edL, x.n ≤ 1048576) := by
  unfold En.sz at hz
  have lim : ∀ (K : List Nm) (C : Option Addr), RdN0 w C K → szL K ≤ 1048576 → ∀ x ∈ K, x.n ≤ 1048576 := fun K C h hz x hx => by
    have h1 := szL_mem hx
    obtain ⟨k, hk, rfl⟩ := List.getElem_of_mem hx
    have h2 := (h k _ (List.getElem?_eq_getElem hk)).1.2.2
    unfold Nm.sz at h1
    omega
  exact ⟨by omega, by omega, lim _ _ hr.1 (by omega), lim _ _ hr.2.2.1 (by omega)⟩
set_option maxHeartbeats 1000000 in
theorem toE (key : ByteArray) (kind : Int) (auA : Option Addr) (auN : Nat) (auc : Nat) (auL : List Nm) (edA : Option Addr) (edN : Nat) (edc : Nat) (edL : List Nm) (ti : ByteArray) (co : ByteArray) (pu : ByteArray) (y : Int) (m : Int) (d : Int) (ci : Bool) (vol : Int) (pa : ByteArray) (cr : ByteArray) (w : World) (hr : (⟨key, kind, auA, auN, auc, auL, edA, edN, edc, edL, ti, co, pu, y, m, d, ci, vol, pa, cr⟩ : En).Rd w) (hz : (⟨key, kind, auA, auN, auc, auL, edA, edN, edc, edL, ti, co, pu, y, m, d, ci, vol, pa, cr⟩ : En).sz ≤ 1048576) :
    Calls Tryz.prog 6 #[.agg #[.string key, .int .i64 kind, .slice auA auN auc, .slice edA edN edc, .string ti, .string co, .string pu, .int .i64 y, .int .i64 m, .int .i64 d, .bool ci, .int .i64 vol, .string pa, .string cr]] w fun e w' => ∃ A M B K, e = .returned (.agg #[.string key, .int .i64 kind, .slice A auN auN, .slice B edN edN, .string ti, .string co, .string pu, .int .i64 y, .int .i64 m, .int .i64 d, .bool ci, .int .i64 vol, .string pa, .string cr]) ∧ (mv (⟨key, kind, auA, auN, auc, auL, edA, edN, edc, edL, ti, co, pu, y, m, d, ci, vol, pa, cr⟩ : En) A M B K).Rd w' ∧ M.map Nm.key = auL.map Nm.key ∧ K.map Nm.key = edL.map Nm.key ∧ (∀ x ∈ M, x.n ≤ 1048576) ∧ (∀ x ∈ K, x.n ≤ 1048576) ∧ (∀ x ∈ M, x.n ≤ x.c) ∧ (∀ x ∈ K, x.n ≤ x.c) ∧ Below w.heap.size w w' := by
  obtain ⟨l1, l2, l3, l4⟩ := lims _ w hr hz
  exact (toEntry_far key kind auA auN auc auL edA edN edc edL ti co pu y m d ci vol pa cr w hr l1 l2 l3 l4).mono fun _ _ ⟨g2, M2, g3, M3, h1, h2, h3, _, _, h4, h5, h6, h7, h8⟩ => ⟨some ⟨g2, 0, none⟩, M2, some ⟨g3, 0, none⟩, M3, h1, ⟨h2.1, (len_of_key h4).trans hr.2.1, h3.1, (len_of_key h5).trans hr.2.2.2⟩, h4, h5, h6, h7, (fun x hx => (h2.2.1 x hx).2.1), (fun x hx => (h3.2.1 x hx).2.1), h8⟩
set_option maxRecDepth 100000 in
set_option maxHeartbeats 32000000 in
theorem walk (key : ByteArray) (kind : Int) (auA : Option Addr) (auN : Nat) (auc : Nat) (auL : List Nm) (edA : Option Addr) (edN : Nat) (edc : Nat) (edL : List Nm) (ti : ByteArray) (co : ByteArray) (pu : ByteArray) (y : Int) (m : Int) (d : Int) (ci : Bool) (vol : Int) (pa : ByteArray) (cr : ByteArray) (key2 : ByteArray) (kind2 : Int) (auA2 : Option Addr) (auN2 : Nat) (auc2 : Nat) (auL2 : List Nm) (edA2 : Option Addr) (edN2 : Nat) (edc2 : Nat) (edL2 : List Nm) (ti2 : ByteArray) (co2 : ByteArray) (pu2 : ByteArray) (y2 : Int) (m2 : Int) (d2' : Int) (ci2 : Bool) (vol2 : Int) (pa2 : ByteArray) (cr2 : ByteArray) (w : World) (hr : (⟨key, kind, auA, auN, auc, auL, edA, edN, edc, edL, ti, co, pu, y, m, d, ci, vol, pa, cr⟩ : En).Rd w) (hl : (⟨key, kind, auA, auN, auc, auL, edA, edN, edc, edL, ti, co, pu, y, m, d, ci, vol, pa, cr⟩ : En).Lim) (hr2 : (⟨key2, kind2, auA2, auN2, auc2, auL2, edA2, edN2, edc2, edL2, ti2, co2, pu2, y2, m2, d2', ci2, vol2, pa2, cr2⟩ : En).Rd w) (hl2 : (⟨key2, kind2, auA2, auN2, auc2, auL2, edA2, edN2, edc2, edL2, ti2, co2, pu2, y2, m2, d2', ci2, vol2, pa2, cr2⟩ : En).Lim) (hca : CaT w) :
    Calls Tryz.prog 3 #[.agg #[.string key, .int .i64 kind, .slice auA auN auc, .slice edA edN edc, .string ti, .string co, .string pu, .int .i64 y, .int .i64 m, .int .i64 d, .bool ci, .int .i64 vol, .string pa, .string cr], .agg #[.string key2, .int .i64 kind2, .slice auA2 auN2 auc2, .slice edA2 edN2 edc2, .string ti2, .string co2, .string pu2, .int .i64 y2, .int .i64 m2, .int .i64 d2', .bool ci2, .int .i64 vol2, .string pa2, .string cr2]] w fun e w' => e = .returned (.bool true) ∧ Below w.heap.size w w' := by
  obtain ⟨W0, hW0⟩ : ∃ W0, W0 = (w.alloc (.cells #[.string key, .int .i64 kind, .slice auA auN auc, .slice edA edN edc, .string ti, .string co, .string pu, .int .i64 y, .int .i64 m, .int .i64 d, .bool ci, .int .i64 vol, .string pa, .string cr] 26)).alloc (.cells #[.string key2, .int .i64 kind2, .slice auA2 auN2 auc2, .slice edA2 edN2 edc2, .string ti2, .string co2, .string pu2, .int .i64 y2, .int .i64 m2, .int .i64 d2', .bool ci2, .int .i64 vol2, .string pa2, .string cr2] 26) := ⟨_, rfl⟩
  have HB : Hid (Below w.heap.size w W0) := Lib.hid (by rw [hW0]; exact boxes _ _ _)
  have HC1 : Hid (E14 W0 w.heap.size (⟨key, kind, auA, auN, auc, auL, edA, edN, edc, edL, ti, co, pu, y, m, d, ci, vol, pa, cr⟩ : En)) := Lib.hid (by rw [hW0]; exact (E14.new w (⟨key, kind, auA, auN, auc, auL, edA, edN, edc, edL, ti, co, pu, y, m, d, ci, vol, pa, cr⟩ : En) 26).below ((Below.refl _ _).alloc (Nat.le_refl _) _))
  have HC2 : Hid (E14 W0 (w.heap.size + 1) (⟨key2, kind2, auA2, auN2, auc2, auL2, edA2, edN2, edc2, edL2, ti2, co2, pu2, y2, m2, d2', ci2, vol2, pa2, cr2⟩ : En)) := Lib.hid (by
    rw [hW0]
    have := E14.new (w.alloc (.cells #[.string key, .int .i64 kind, .slice auA auN auc, .slice edA edN edc, .string ti, .string co, .string pu, .int .i64 y, .int .i64 m, .int .i64 d, .bool ci, .int .i64 vol, .string pa, .string cr] 26)) (⟨key2, kind2, auA2, auN2, auc2, auL2, edA2, edN2, edc2, edL2, ti2, co2, pu2, y2, m2, d2', ci2, vol2, pa2, cr2⟩ : En) 26
    simpa using this)
  have HS : Hid (∀ w', Kept W0 w' → ((w'.cell? ⟨w.heap.size, 0, none⟩ = some (.string key) ∧ w'.cell? ⟨w.heap.size, 1, none⟩ = some (.int .i64 kind) ∧ w'.cell? ⟨w.heap.size, 2, none⟩ = some (.slice auA auN auc) ∧ w'.cell? ⟨w.heap.size, 3, none⟩ = some (.slice edA edN edc) ∧ w'.cell? ⟨w.heap.size, 4, none⟩ = some (.string ti) ∧ w'.cell? ⟨w.heap.size, 5, none⟩ = some (.string co) ∧ w'.cell? ⟨w.heap.size, 6, none⟩ = some (.string pu) ∧ w'.cell? ⟨w.heap.size, 7, none⟩ = some (.int .i64 y) ∧ w'.cell? ⟨w.heap.size, 8, none⟩ = some (.int .i64 m) ∧ w'.cell? ⟨w.heap.size, 9, none⟩ = some (.int .i64 d) ∧ w'.cell? ⟨w.heap.size, 10, none⟩ = some (.bool ci) ∧ w'.cell? ⟨w.heap.size, 11, none⟩ = some (.int .i64 vol) ∧ w'.cell? ⟨w.heap.size, 12, none⟩ = some (.string pa) ∧ w'.cell? ⟨w.heap.size, 13, none⟩ = some (.string cr)) ∧ (w'.cell? ⟨(w.heap.size + 1), 0, none⟩ = some (.string key2) ∧ w'.cell? ⟨(w.heap.size + 1), 1, none⟩ = some (.int .i64 kind2) ∧ w'.cell? ⟨(w.heap.size + 1), 2, none⟩ = some (.slice auA2 auN2 auc2) ∧ w'.cell? ⟨(w.heap.size + 1), 3, none⟩ = some (.slice edA2 edN2 edc2) ∧ w'.cell? ⟨(w.heap.size + 1), 4, none⟩ = some (.string ti2) ∧ w'.cell? ⟨(w.heap.size + 1), 5, none⟩ = some (.string co2) ∧ w'.cell? ⟨(w.heap.size + 1), 6, none⟩ = some (.string pu2) ∧ w'.cell? ⟨(w.heap.size + 1), 7, none⟩ = some (.int .i64 y2) ∧ w'.cell? ⟨(w.heap.size + 1), 8, none⟩ = some (.int .i64 m2) ∧ w'.cell? ⟨(w.heap.size + 1), 9, none⟩ = some (.int .i64 d2') ∧ w'.cell? ⟨(w.heap.size + 1), 10, none⟩ = some (.bool ci2) ∧ w'.cell? ⟨(w.heap.size + 1), 11, none⟩ = some (.int .i64 vol2) ∧ w'.cell? ⟨(w.heap.size + 1), 12, none⟩ = some (.string pa2) ∧ w'.cell? ⟨(w.heap.size + 1), 13, none⟩ = some (.string cr2)) ∧ Kept W0 w')) := Lib.hid (fun w' h => ⟨(HC1.out.below h).2, (HC2.out.below h).2, h⟩)
  have RR1 := Lib.hid (fun w' (hk : Kept W0 w') => hr.below (HB.out.trans (Below.mono hk HB.out.size)))
  have RR2 := Lib.hid (fun w' (hk : Kept W0 w') => hr2.below (HB.out.trans (Below.mono hk HB.out.size)))
  have HCa := Lib.hid (fun w' (hk : Kept W0 w') => hca.below (HB.out.trans (Below.mono hk HB.out.size)))
  have HW0 := Lib.hid hW0
  have KR : Kept W0 W0 := Below.refl _ _
  have HSa := Lib.hid (szEntry_any key kind auA auN auc auL edA edN edc edL ti co pu y m d ci vol pa cr 1048576 W0 (RR1.out _ KR) hl (Nat.le_refl _))
  by_cases z1 : (⟨key, kind, auA, auN, auc, auL, edA, edN, edc, edL, ti, co, pu, y, m, d, ci, vol, pa, cr⟩ : En).sz ≤ 1048576
  · obtain ⟨t, ht⟩ : ∃ t : Nat, t = 1048576 - (⟨key, kind, auA, auN, auc, auL, edA, edN, edc, edL, ti, co, pu, y, m, d, ci, vol, pa, cr⟩ : En).sz := ⟨_, rfl⟩
    have hta : szE 1048576 (⟨key, kind, auA, auN, auc, auL, edA, edN, edc, edL, ti, co, pu, y, m, d, ci, vol, pa, cr⟩ : En) = (t : Int) := by unfold szE; rw [if_pos z1]; omega
    rw [hta] at HSa
    have HSb := Lib.hid (fun w' (hk : Kept W0 w') => szEntry_any key2 kind2 auA2 auN2 auc2 auL2 edA2 edN2 edc2 edL2 ti2 co2 pu2 y2 m2 d2' ci2 vol2 pa2 cr2 t w' (RR2.out w' hk) hl2 (by omega))
    by_cases z2' : (⟨key2, kind2, auA2, auN2, auc2, auL2, edA2, edN2, edc2, edL2, ti2, co2, pu2, y2, m2, d2', ci2, vol2, pa2, cr2⟩ : En).sz ≤ t
    · have z2 : (⟨key2, kind2, auA2, auN2, auc2, auL2, edA2, edN2, edc2, edL2, ti2, co2, pu2, y2, m2, d2', ci2, vol2, pa2, cr2⟩ : En).sz ≤ 1048576 := by omega
      obtain ⟨t2, ht2⟩ : ∃ t2 : Nat, szE t (⟨key2, kind2, auA2, auN2, auc2, auL2, edA2, edN2, edc2, edL2, ti2, co2, pu2, y2, m2, d2', ci2, vol2, pa2, cr2⟩ : En) = (t2 : Int) := ⟨t - (⟨key2, kind2, auA2, auN2, auc2, auL2, edA2, edN2, edc2, edL2, ti2, co2, pu2, y2, m2, d2', ci2, vol2, pa2, cr2⟩ : En).sz, by unfold szE; rw [if_pos z2']; omega⟩
      rw [ht2] at HSb
      obtain ⟨r1, h1⟩ : ∃ r1, cnL (mainL (⟨key, kind, auA, auN, auc, auL, edA, edN, edc, edL, ti, co, pu, y, m, d, ci, vol, pa, cr⟩ : En)) (mainL (⟨key2, kind2, auA2, auN2, auc2, auL2, edA2, edN2, edc2, edL2, ti2, co2, pu2, y2, m2, d2', ci2, vol2, pa2, cr2⟩ : En)) = r1 := ⟨_, rfl⟩
      obtain ⟨r2, h2⟩ : ∃ r2, DtPl.cmpD y m d ci y2 m2 d2' ci2 = r2 := ⟨_, rfl⟩
      obtain ⟨r3, h3⟩ : ∃ r3, colV (Pl.ba (drA ti.data.toList)) (Pl.ba (drA ti2.data.toList)) = r3 := ⟨_, rfl⟩
      obtain ⟨r4, h4⟩ : ∃ r4, DtPl.cmpI vol vol2 = r4 := ⟨_, rfl⟩
      obtain ⟨r5, h5⟩ : ∃ r5, Cmp.cmpS key key2 = r5 := ⟨_, rfl⟩
      obtain ⟨o1, ho1⟩ : ∃ o1, okE (⟨key, kind, auA, auN, auc, auL, edA, edN, edc, edL, ti, co, pu, y, m, d, ci, vol, pa, cr⟩ : En) = o1 := ⟨_, rfl⟩
      obtain ⟨o2, ho2⟩ : ∃ o2, okE (⟨key2, kind2, auA2, auN2, auc2, auL2, edA2, edN2, edc2, edL2, ti2, co2, pu2, y2, m2, d2', ci2, vol2, pa2, cr2⟩ : En) = o2 := ⟨_, rfl⟩
      have HTa := Lib.hid (fun w' (hk : Kept W0 w') => toE key kind auA auN auc auL edA edN edc edL ti co pu y m d ci vol pa cr w' (RR1.out w' hk) z1)
      have HTb := Lib.hid (fun w' (hk : Kept W0 w') => toE key2 kind2 auA2 auN2 auc2 auL2 edA2 edN2 edc2 edL2 ti2 co2 pu2 y2 m2 d2' ci2 vol2 pa2 cr2 w' (RR2.out w' hk) z2)
      have HCs := Lib.hid (fun A M B K A2 M2 B2 K2 w' (q1 : (mv (⟨key, kind, auA, auN, auc, auL, edA, edN, edc, edL, ti, co, pu, y, m, d, ci, vol, pa, cr⟩ : En) A M B K).Rd w') (q2 : (mv (⟨key2, kind2, auA2, auN2, auc2, auL2, edA2, edN2, edc2, edL2, ti2, co2, pu2, y2, m2, d2', ci2, vol2, pa2, cr2⟩ : En) A2 M2 B2 K2).Rd w') (k1 : M.map Nm.key = auL.map Nm.key) (k2 : K.map Nm.key = edL.map Nm.key) (k3 : M2.map Nm.key = auL2.map Nm.key) (k4 : K2.map Nm.key = edL2.map Nm.key) => entries_s key kind A auN auN M B edN edN K ti co pu y m d ci vol pa cr key2 kind2 A2 auN2 auN2 M2 B2 edN2 edN2 K2 ti2 co2 pu2 y2 m2 d2' ci2 vol2 pa2 cr2 r1 r2 r3 r4 r5 o1 o2 w' q1 q2 (by have := sz_mv (e := (⟨key, kind, auA, auN, auc, auL, edA, edN, edc, edL, ti, co, pu, y, m, d, ci, vol, pa, cr⟩ : En)) (A := A) (B := B) k1 k2; rw [this]; exact z1) (by have := sz_mv (e := (⟨key2, kind2, auA2, auN2, auc2, auL2, edA2, edN2, edc2, edL2, ti2, co2, pu2, y2, m2, d2', ci2, vol2, pa2, cr2⟩ : En)) (A := A2) (B := B2) k3 k4; rw [this]; exact z2) ((okE_mv (e := (⟨key, kind, auA, auN, auc, auL, edA, edN, edc, edL, ti, co, pu, y, m, d, ci, vol, pa, cr⟩ : En)) k1 k2).trans ho1) ((okE_mv (e := (⟨key2, kind2, auA2, auN2, auc2, auL2, edA2, edN2, edc2, edL2, ti2, co2, pu2, y2, m2, d2', ci2, vol2, pa2, cr2⟩ : En)) k3 k4).trans ho2) ((cnL_key _ _ _ _ (main_mv (e := (⟨key, kind, auA, auN, auc, auL, edA, edN, edc, edL, ti, co, pu, y, m, d, ci, vol, pa, cr⟩ : En)) k1 k2) (main_mv (e := (⟨key2, kind2, auA2, auN2, auc2, auL2, edA2, edN2, edc2, edL2, ti2, co2, pu2, y2, m2, d2', ci2, vol2, pa2, cr2⟩ : En)) k3 k4)).trans h1) h2 h3 h4 h5)
      have HCi := Lib.hid (fun A M B K A2 M2 B2 K2 w' (q1 : (mv (⟨key, kind, auA, auN, auc, auL, edA, edN, edc, edL, ti, co, pu, y, m, d, ci, vol, pa, cr⟩ : En) A M B K).Rd w') (q2 : (mv (⟨key2, kind2, auA2, auN2, auc2, auL2, edA2, edN2, edc2, edL2, ti2, co2, pu2, y2, m2, d2', ci2, vol2, pa2, cr2⟩ : En) A2 M2 B2 K2).Rd w') (k1 : M.map Nm.key = auL.map Nm.key) (k2 : K.map Nm.key = edL.map Nm.key) (k3 : M2.map Nm.key = auL2.map Nm.key) (k4 : K2.map Nm.key = edL2.map Nm.key) (c1 : ∀ x ∈ M, x.n ≤ x.c) (c2 : ∀ x ∈ K, x.n ≤ x.c) (c3 : ∀ x ∈ M2, x.n ≤ x.c) (c4 : ∀ x ∈ K2, x.n ≤ x.c) (hk : Kept W0 w') => entries_i key kind A auN auN M B edN edN K ti co pu y m d ci vol pa cr key2 kind2 A2 auN2 auN2 M2 B2 edN2 edN2 K2 ti2 co2 pu2 y2 m2 d2' ci2 vol2 pa2 cr2 r1 r2 r3 r4 r5 o1 o2 w' q1 q2 (by have := sz_mv (e := (⟨key, kind, auA, auN, auc, auL, edA, edN, edc, edL, ti, co, pu, y, m, d, ci, vol, pa, cr⟩ : En)) (A := A) (B := B) k1 k2; rw [this]; exact z1) (by have := sz_mv (e := (⟨key2, kind2, auA2, auN2, auc2, auL2, edA2, edN2, edc2, edL2, ti2, co2, pu2, y2, m2, d2', ci2, vol2, pa2, cr2⟩ : En)) (A := A2) (B := B2) k3 k4; rw [this]; exact z2) ((okE_mv (e := (⟨key, kind, auA, auN, auc, auL, edA, edN, edc, edL, ti, co, pu, y, m, d, ci, vol, pa, cr⟩ : En)) k1 k2).trans ho1) ((okE_mv (e := (⟨key2, kind2, auA2, auN2, auc2, auL2, edA2, edN2, edc2, edL2, ti2, co2, pu2, y2, m2, d2', ci2, vol2, pa2, cr2⟩ : En)) k3 k4).trans ho2) (main_cap (e := (⟨key, kind, auA, auN, auc, auL, edA, edN, edc, edL, ti, co, pu, y, m, d, ci, vol, pa, cr⟩ : En)) c1 c2) (main_cap (e := (⟨key2, kind2, auA2, auN2, auc2, auL2, edA2, edN2, edc2, edL2, ti2, co2, pu2, y2, m2, d2', ci2, vol2, pa2, cr2⟩ : En)) c3 c4) (HCa.out w' hk) ((cnL_key _ _ _ _ (main_mv (e := (⟨key, kind, auA, auN, auc, auL, edA, edN, edc, edL, ti, co, pu, y, m, d, ci, vol, pa, cr⟩ : En)) k1 k2) (main_mv (e := (⟨key2, kind2, auA2, auN2, auc2, auL2, edA2, edN2, edc2, edL2, ti2, co2, pu2, y2, m2, d2', ci2, vol2, pa2, cr2⟩ : En)) k3 k4)).trans h1) h2 h3 h4 h5)
      obtain ⟨x, b, hV⟩ := ce_form o1 o2 (Dt.orL [r1, r2, r3, r4, r5])
      rw [hV] at HCs HCi
      obtain ⟨ha, he, -, -⟩ := lims _ w hr z1
      obtain ⟨ha2, he2, -, -⟩ := lims _ w hr2 z2
      dsimp only at ha he ha2 he2
      clear hW0 hr hl hr2 hl2 hca hta ht ht2 z1 z2 z2' h1 h2 h3 h4 h5 ho1 ho2 hV
      obtain ⟨⟨e0, e1, e2, e3, e4, e5, e6, e7, e8, e9, e10, e11, e12, e13⟩, ⟨g0, g1, g2, g3, g4, g5, g6, g7, g8, g9, g10, g11, g12, g13⟩, -⟩ := HS.out _ KR
      go_enter Tryz.func3, Tryz.ntmps3
      go_wp2_with fail
      rw [← HW0.out]
      refine HSa.out.mono ?_
      rintro e w1 ⟨rfl, b1⟩
      have k1 : Kept W0 w1 := b1
      clear b1 e0 e1 e2 e3 e4 e5 e6 e7 e8 e9 e10 e11 e12 e13 g0 g1 g2 g3 g4 g5 g6 g7 g8 g9 g10 g11 g12 g13 HSa
      obtain ⟨⟨e0, e1, e2, e3, e4, e5, e6, e7, e8, e9, e10, e11, e12, e13⟩, ⟨g0, g1, g2, g3, g4, g5, g6, g7, g8, g9, g10, g11, g12, g13⟩, -⟩ := HS.out _ k1
      go_wp2_with fail
      refine (HSb.out _ k1).mono ?_
      rintro e w2 ⟨rfl, b2⟩
      have HK2 : Hid (Kept W0 w2) := Lib.hid (Kept.next k1 b2)
      have HK0 : Hid (Kept W0 w2.drew) := Lib.hid (Kept.next HK2.out (Kept.drew w2))
      clear b2 k1 KR e0 e1 e2 e3 e4 e5 e6 e7 e8 e9 e10 e11 e12 e13 g0 g1 g2 g3 g4 g5 g6 g7 g8 g9 g10 g11 g12 g13 HSb
      go_wp2_with fail
      go_region_held3 (fun w' => (w'.cell? ⟨w.heap.size, 0, none⟩ = some (.string key) ∧ w'.cell? ⟨w.heap.size, 1, none⟩ = some (.int .i64 kind) ∧ w'.cell? ⟨w.heap.size, 2, none⟩ = some (.slice auA auN auc) ∧ w'.cell? ⟨w.heap.size, 3, none⟩ = some (.slice edA edN edc) ∧ w'.cell? ⟨w.heap.size, 4, none⟩ = some (.string ti) ∧ w'.cell? ⟨w.heap.size, 5, none⟩ = some (.string co) ∧ w'.cell? ⟨w.heap.size, 6, none⟩ = some (.string pu) ∧ w'.cell? ⟨w.heap.size, 7, none⟩ = some (.int .i64 y) ∧ w'.cell? ⟨w.heap.size, 8, none⟩ = some (.int .i64 m) ∧ w'.cell? ⟨w.heap.size, 9, none⟩ = some (.int .i64 d) ∧ w'.cell? ⟨w.heap.size, 10, none⟩ = some (.bool ci) ∧ w'.cell? ⟨w.heap.size, 11, none⟩ = some (.int .i64 vol) ∧ w'.cell? ⟨w.heap.size, 12, none⟩ = some (.string pa) ∧ w'.cell? ⟨w.heap.size, 13, none⟩ = some (.string cr)) ∧ (w'.cell? ⟨(w.heap.size + 1), 0, none⟩ = some (.string key2) ∧ w'.cell? ⟨(w.heap.size + 1), 1, none⟩ = some (.int .i64 kind2) ∧ w'.cell? ⟨(w.heap.size + 1), 2, none⟩ = some (.slice auA2 auN2 auc2) ∧ w'.cell? ⟨(w.heap.size + 1), 3, none⟩ = some (.slice edA2 edN2 edc2) ∧ w'.cell? ⟨(w.heap.size + 1), 4, none⟩ = some (.string ti2) ∧ w'.cell? ⟨(w.heap.size + 1), 5, none⟩ = some (.string co2) ∧ w'.cell? ⟨(w.heap.size + 1), 6, none⟩ = some (.string pu2) ∧ w'.cell? ⟨(w.heap.size + 1), 7, none⟩ = some (.int .i64 y2) ∧ w'.cell? ⟨(w.heap.size + 1), 8, none⟩ = some (.int .i64 m2) ∧ w'.cell? ⟨(w.heap.size + 1), 9, none⟩ = some (.int .i64 d2') ∧ w'.cell? ⟨(w.heap.size + 1), 10, none⟩ = some (.bool ci2) ∧ w'.cell? ⟨(w.heap.size + 1), 11, none⟩ = some (.int .i64 vol2) ∧ w'.cell? ⟨(w.heap.size + 1), 12, none⟩ = some (.string pa2) ∧ w'.cell? ⟨(w.heap.size + 1), 13, none⟩ = some (.string cr2)) ∧ Kept W0 w')
        (first | exact HS.out _ HK0.out | exact HS.out _ (by assumption))
        (first
          | (go_at_call 6; with_reducible refine (HTa.out _ (by first | exact HK0.out | assumption)).mono ?_; rintro e w3 ⟨xA, xM, xB, xK, rfl, xR, x1, x2, x3, x4, x5, x6, b3⟩; have hk3 : Kept W0 w3 := Kept.next (by first | exact HK0.out | assumption) b3)
          | (go_at_call 6; with_reducible refine (HTb.out _ (by first | exact HK0.out | assumption)).mono ?_; rintro e w4 ⟨yA, yM, yB, yK, rfl, yR, y1, y2', y3, y4, y5, y6, b4⟩; have hk4 : Kept W0 w4 := Kept.next (by first | exact HK0.out | assumption) b4; have xR4 := xR.below b4)
          | (go_at_call 5; refine (HCs.out xA xM xB xK yA yM yB yK _ xR4 yR x1 x2 y1 y2').mono ?_; rintro e w5 ⟨rfl, b5⟩; have hk5 : Kept W0 w5 := Kept.next (by first | exact HK0.out | assumption) b5))
      have HK5 : Hid (Kept W0 w5) := Lib.hid hk5
      clear hk3 hk4 hk5 b3 b4 b5 xR xR4 yR x1 x2 x3 x4 x5 x6 y1 y2' y3 y4 y5 y6 HCs HK2 HK0
      (try clear hHeld)
      obtain ⟨⟨e0, e1, e2, e3, e4, e5, e6, e7, e8, e9, e10, e11, e12, e13⟩, ⟨g0, g1, g2, g3, g4, g5, g6, g7, g8, g9, g10, g11, g12, g13⟩, -⟩ := HS.out _ HK5.out
      go_wp2_with fail
      refine (HTa.out _ HK5.out).mono ?_
      rintro e w6 ⟨uA, uM, uB, uK, rfl, uR, u1, u2, u3, u4, u5, u6, b6⟩
      have B7 := (Below.refl _ w6).alloc (Nat.le_refl _) (.cells #[.string key, .int .i64 kind, .slice uA auN auN, .slice uB edN edN, .string ti, .string co, .string pu, .int .i64 y, .int .i64 m, .int .i64 d, .bool ci, .int .i64 vol, .string pa, .string cr] 33)
      have X7 := Lib.hid (E14.new w6 (mv (⟨key, kind, auA, auN, auc, auL, edA, edN, edc, edL, ti, co, pu, y, m, d, ci, vol, pa, cr⟩ : En) uA uM uB uK) 33)
      have UR7 := Lib.hid (uR.below B7)
      have k7 := Kept.next (Kept.next HK5.out b6) B7
      have U1 := Lib.hid u1
      have U2 := Lib.hid u2
      have U3 := Lib.hid u3
      have U4 := Lib.hid u4
      have U5 := Lib.hid u5
      have U6 := Lib.hid u6
      clear e0 e1 e2 e3 e4 e5 e6 e7 e8 e9 e10 e11 e12 e13 g0 g1 g2 g3 g4 g5 g6 g7 g8 g9 g10 g11 g12 g13 b6 B7 uR u1 u2 u3 u4 u5 u6 HK5
      go_upto_region 10 with fail
      generalize hW : w6.alloc _ = w7 at X7 UR7 k7 ⊢
      clear hW
      generalize w6.heap.size = bx at *
      have HK7 := Lib.hid k7
      obtain ⟨⟨e0, e1, e2, e3, e4, e5, e6, e7, e8, e9, e10, e11, e12, e13⟩, ⟨g0, g1, g2, g3, g4, g5, g6, g7, g8, g9, g10, g11, g12, g13⟩, -⟩ := HS.out _ k7
      go_wp2_with fail
      refine (HTb.out _ k7).mono ?_
      rintro e w8 ⟨vA, vM, vB, vK, rfl, vR, v1, v2, v3, v4, v5, v6, b8⟩
      have B9 := (Below.refl _ w8).alloc (Nat.le_refl _) (.cells #[.string key2, .int .i64 kind2, .slice vA auN2 auN2, .slice vB edN2 edN2, .string ti2, .string co2, .string pu2, .int .i64 y2, .int .i64 m2, .int .i64 d2', .bool ci2, .int .i64 vol2, .string pa2, .string cr2] 33)
      have Y9 := Lib.hid (E14.new w8 (mv (⟨key2, kind2, auA2, auN2, auc2, auL2, edA2, edN2, edc2, edL2, ti2, co2, pu2, y2, m2, d2', ci2, vol2, pa2, cr2⟩ : En) vA vM vB vK) 33)
      have VR9 := Lib.hid (vR.below B9)
      have X9 := Lib.hid ((X7.out.below b8).below B9)
      have UR9 := Lib.hid ((UR7.out.below b8).below B9)
      have k9 := Kept.next (Kept.next HK7.out b8) B9
      have V1 := Lib.hid v1
      have V2 := Lib.hid v2
      have V3 := Lib.hid v3
      have V4 := Lib.hid v4
      have V5 := Lib.hid v5
      have V6 := Lib.hid v6
      clear e0 e1 e2 e3 e4 e5 e6 e7 e8 e9 e10 e11 e12 e13 g0 g1 g2 g3 g4 g5 g6 g7 g8 g9 g10 g11 g12 g13 b8 B9 vR v1 v2 v3 v4 v5 v6 HK7 k7 X7 UR7
      go_upto_region 11 with fail
      generalize hW : w8.alloc _ = w9 at Y9 VR9 X9 UR9 k9 ⊢
      clear hW
      generalize w8.heap.size = bY at *
      have HK9 := Lib.hid k9
      have HCi9 := Lib.hid (HCi.out uA uM uB uK vA vM vB vK w9 UR9.out VR9.out U1.out U2.out V1.out V2.out U5.out U6.out V5.out V6.out k9)
      obtain ⟨-, e0, e1, e2, e3, e4, e5, e6, e7, e8, e9, e10, e11, e12, e13⟩ := X9.out
      obtain ⟨-, g0, g1, g2, g3, g4, g5, g6, g7, g8, g9, g10, g11, g12, g13⟩ := Y9.out
      dsimp only [mv] at e0 e1 e2 e3 e4 e5 e6 e7 e8 e9 e10 e11 e12 e13 g0 g1 g2 g3 g4 g5 g6 g7 g8 g9 g10 g11 g12 g13
      clear HCi k9
      go_wp2_with fail
      refine HCi9.out.mono ?_
      rintro e w10 ⟨rfl, b10⟩
      have k10 := Kept.next HK9.out b10
      have X10 := Lib.hid (X9.out.below b10)
      have Y10 := Lib.hid (Y9.out.below b10)
      have UR10 := Lib.hid (UR9.out.below b10)
      have VR10 := Lib.hid (VR9.out.below b10)
      have HK10 := Lib.hid k10
      have HX : Hid (∀ w', Kept w10 w' → ((w'.cell? ⟨bx, 0, none⟩ = some (.string key) ∧ w'.cell? ⟨bx, 1, none⟩ = some (.int .i64 kind) ∧ w'.cell? ⟨bx, 2, none⟩ = some (.slice uA auN auN) ∧ w'.cell? ⟨bx, 3, none⟩ = some (.slice uB edN edN) ∧ w'.cell? ⟨bx, 4, none⟩ = some (.string ti) ∧ w'.cell? ⟨bx, 5, none⟩ = some (.string co) ∧ w'.cell? ⟨bx, 6, none⟩ = some (.string pu) ∧ w'.cell? ⟨bx, 7, none⟩ = some (.int .i64 y) ∧ w'.cell? ⟨bx, 8, none⟩ = some (.int .i64 m) ∧ w'.cell? ⟨bx, 9, none⟩ = some (.int .i64 d) ∧ w'.cell? ⟨bx, 10, none⟩ = some (.bool ci) ∧ w'.cell? ⟨bx, 11, none⟩ = some (.int .i64 vol) ∧ w'.cell? ⟨bx, 12, none⟩ = some (.string pa) ∧ w'.cell? ⟨bx, 13, none⟩ = some (.string cr)) ∧ (w'.cell? ⟨w.heap.size, 0, none⟩ = some (.string key) ∧ w'.cell? ⟨w.heap.size, 1, none⟩ = some (.int .i64 kind) ∧ w'.cell? ⟨w.heap.size, 2, none⟩ = some (.slice auA auN auc) ∧ w'.cell? ⟨w.heap.size, 3, none⟩ = some (.slice edA edN edc) ∧ w'.cell? ⟨w.heap.size, 4, none⟩ = some (.string ti) ∧ w'.cell? ⟨w.heap.size, 5, none⟩ = some (.string co) ∧ w'.cell? ⟨w.heap.size, 6, none⟩ = some (.string pu) ∧ w'.cell? ⟨w.heap.size, 7, none⟩ = some (.int .i64 y) ∧ w'.cell? ⟨w.heap.size, 8, none⟩ = some (.int .i64 m) ∧ w'.cell? ⟨w.heap.size, 9, none⟩ = some (.int .i64 d) ∧ w'.cell? ⟨w.heap.size, 10, none⟩ = some (.bool ci) ∧ w'.cell? ⟨w.heap.size, 11, none⟩ = some (.int .i64 vol) ∧ w'.cell? ⟨w.heap.size, 12, none⟩ = some (.string pa) ∧ w'.cell? ⟨w.heap.size, 13, none⟩ = some (.string cr)) ∧ Kept w10 w')) := Lib.hid (fun w' h => ⟨(X10.out.below h).2, (HS.out w' (Kept.next k10 h)).1, h⟩)
      have KX0 : Hid (Kept w10 w10.drew) := Lib.hid (Kept.drew w10)
      have HTd := Lib.hid (HTa.out w10.drew (Kept.next k10 (Kept.drew w10)))
      clear e0 e1 e2 e3 e4 e5 e6 e7 e8 e9 e10 e11 e12 e13 g0 g1 g2 g3 g4 g5 g6 g7 g8 g9 g10 g11 g12 g13 b10 HK9 X9 Y9 UR9 VR9 HCi9 k10
      go_wp2_with fail
      go_region_held3 (fun w' => (w'.cell? ⟨bx, 0, none⟩ = some (.string key) ∧ w'.cell? ⟨bx, 1, none⟩ = some (.int .i64 kind) ∧ w'.cell? ⟨bx, 2, none⟩ = some (.slice uA auN auN) ∧ w'.cell? ⟨bx, 3, none⟩ = some (.slice uB edN edN) ∧ w'.cell? ⟨bx, 4, none⟩ = some (.string ti) ∧ w'.cell? ⟨bx, 5, none⟩ = some (.string co) ∧ w'.cell? ⟨bx, 6, none⟩ = some (.string pu) ∧ w'.cell? ⟨bx, 7, none⟩ = some (.int .i64 y) ∧ w'.cell? ⟨bx, 8, none⟩ = some (.int .i64 m) ∧ w'.cell? ⟨bx, 9, none⟩ = some (.int .i64 d) ∧ w'.cell? ⟨bx, 10, none⟩ = some (.bool ci) ∧ w'.cell? ⟨bx, 11, none⟩ = some (.int .i64 vol) ∧ w'.cell? ⟨bx, 12, none⟩ = some (.string pa) ∧ w'.cell? ⟨bx, 13, none⟩ = some (.string cr)) ∧ (w'.cell? ⟨w.heap.size, 0, none⟩ = some (.string key) ∧ w'.cell? ⟨w.heap.size, 1, none⟩ = some (.int .i64 kind) ∧ w'.cell? ⟨w.heap.size, 2, none⟩ = some (.slice auA auN auc) ∧ w'.cell? ⟨w.heap.size, 3, none⟩ = some (.slice edA edN edc) ∧ w'.cell? ⟨w.heap.size, 4, none⟩ = some (.string ti) ∧ w'.cell? ⟨w.heap.size, 5, none⟩ = some (.string co) ∧ w'.cell? ⟨w.heap.size, 6, none⟩ = some (.string pu) ∧ w'.cell? ⟨w.heap.size, 7, none⟩ = some (.int .i64 y) ∧ w'.cell? ⟨w.heap.size, 8, none⟩ = some (.int .i64 m) ∧ w'.cell? ⟨w.heap.size, 9, none⟩ = some (.int .i64 d) ∧ w'.cell? ⟨w.heap.size, 10, none⟩ = some (.bool ci) ∧ w'.cell? ⟨w.heap.size, 11, none⟩ = some (.int .i64 vol) ∧ w'.cell? ⟨w.heap.size, 12, none⟩ = some (.string pa) ∧ w'.cell? ⟨w.heap.size, 13, none⟩ = some (.string cr)) ∧ Kept w10 w')
        (first | exact HX.out _ KX0.out | exact HX.out _ (by assumption))
        (first
          | (go_at_call 8; refine (eqEntry_same key kind uA auN auN uM uB edN edN uK ti co pu y m d ci vol pa cr pA pB auN edN pM pK _ (UR10.out.below hk11) pR (U1.out.trans p1.symm) (U2.out.trans p2.symm) ha he U3.out U4.out).mono ?_; rintro e w12 ⟨rfl, b12⟩; have hk12 : Kept w10 w12 := Kept.next hk11 b12)
          | (go_at_call 6; refine HTd.out.mono ?_; rintro e w11 ⟨pA, pM, pB, pK, rfl, pR, p1, p2, p3, p4, p5, p6, b11⟩; have hk11 : Kept w10 w11 := Kept.next KX0.out b11))
      have HK12 : Hid (Kept W0 w12) := Lib.hid (Kept.next HK10.out hk12)
      have Y12 := Lib.hid (Y10.out.below hk12)
      have VR12 := Lib.hid (VR10.out.below hk12)
      have HY : Hid (∀ w', Kept w12 w' → ((w'.cell? ⟨bY, 0, none⟩ = some (.string key2) ∧ w'.cell? ⟨bY, 1, none⟩ = some (.int .i64 kind2) ∧ w'.cell? ⟨bY, 2, none⟩ = some (.slice vA auN2 auN2) ∧ w'.cell? ⟨bY, 3, none⟩ = some (.slice vB edN2 edN2) ∧ w'.cell? ⟨bY, 4, none⟩ = some (.string ti2) ∧ w'.cell? ⟨bY, 5, none⟩ = some (.string co2) ∧ w'.cell? ⟨bY, 6, none⟩ = some (.string pu2) ∧ w'.cell? ⟨bY, 7, none⟩ = some (.int .i64 y2) ∧ w'.cell? ⟨bY, 8, none⟩ = some (.int .i64 m2) ∧ w'.cell? ⟨bY, 9, none⟩ = some (.int .i64 d2') ∧ w'.cell? ⟨bY, 10, none⟩ = some (.bool ci2) ∧ w'.cell? ⟨bY, 11, none⟩ = some (.int .i64 vol2) ∧ w'.cell? ⟨bY, 12, none⟩ = some (.string pa2) ∧ w'.cell? ⟨bY, 13, none⟩ = some (.string cr2)) ∧ (w'.cell? ⟨(w.heap.size + 1), 0, none⟩ = some (.string key2) ∧ w'.cell? ⟨(w.heap.size + 1), 1, none⟩ = some (.int .i64 kind2) ∧ w'.cell? ⟨(w.heap.size + 1), 2, none⟩ = some (.slice auA2 auN2 auc2) ∧ w'.cell? ⟨(w.heap.size + 1), 3, none⟩ = some (.slice edA2 edN2 edc2) ∧ w'.cell? ⟨(w.heap.size + 1), 4, none⟩ = some (.string ti2) ∧ w'.cell? ⟨(w.heap.size + 1), 5, none⟩ = some (.string co2) ∧ w'.cell? ⟨(w.heap.size + 1), 6, none⟩ = some (.string pu2) ∧ w'.cell? ⟨(w.heap.size + 1), 7, none⟩ = some (.int .i64 y2) ∧ w'.cell? ⟨(w.heap.size + 1), 8, none⟩ = some (.int .i64 m2) ∧ w'.cell? ⟨(w.heap.size + 1), 9, none⟩ = some (.int .i64 d2') ∧ w'.cell? ⟨(w.heap.size + 1), 10, none⟩ = some (.bool ci2) ∧ w'.cell? ⟨(w.heap.size + 1), 11, none⟩ = some (.int .i64 vol2) ∧ w'.cell? ⟨(w.heap.size + 1), 12, none⟩ = some (.string pa2) ∧ w'.cell? ⟨(w.heap.size + 1), 13, none⟩ = some (.string cr2)) ∧ Kept w12 w')) := Lib.hid (fun w' h => ⟨(Y12.out.below h).2, (HS.out w' (Kept.next HK12.out h)).2.1, h⟩)
      have KY0 : Hid (Kept w12 w12.drew) := Lib.hid (Kept.drew w12)
      have HTe := Lib.hid (HTb.out w12.drew (Kept.next HK12.out (Kept.drew w12)))
      clear hk11 hk12 b11 b12 pR p1 p2 p3 p4 p5 p6 X10 Y10 UR10 VR10 HX KX0 HTd HK10
      (try clear hHeld)
      go_wp2_with fail
      go_region_held3 (fun w' => (w'.cell? ⟨bY, 0, none⟩ = some (.string key2) ∧ w'.cell? ⟨bY, 1, none⟩ = some (.int .i64 kind2) ∧ w'.cell? ⟨bY, 2, none⟩ = some (.slice vA auN2 auN2) ∧ w'.cell? ⟨bY, 3, none⟩ = some (.slice vB edN2 edN2) ∧ w'.cell? ⟨bY, 4, none⟩ = some (.string ti2) ∧ w'.cell? ⟨bY, 5, none⟩ = some (.string co2) ∧ w'.cell? ⟨bY, 6, none⟩ = some (.string pu2) ∧ w'.cell? ⟨bY, 7, none⟩ = some (.int .i64 y2) ∧ w'.cell? ⟨bY, 8, none⟩ = some (.int .i64 m2) ∧ w'.cell? ⟨bY, 9, none⟩ = some (.int .i64 d2') ∧ w'.cell? ⟨bY, 10, none⟩ = some (.bool ci2) ∧ w'.cell? ⟨bY, 11, none⟩ = some (.int .i64 vol2) ∧ w'.cell? ⟨bY, 12, none⟩ = some (.string pa2) ∧ w'.cell? ⟨bY, 13, none⟩ = some (.string cr2)) ∧ (w'.cell? ⟨(w.heap.size + 1), 0, none⟩ = some (.string key2) ∧ w'.cell? ⟨(w.heap.size + 1), 1, none⟩ = some (.int .i64 kind2) ∧ w'.cell? ⟨(w.heap.size + 1), 2, none⟩ = some (.slice auA2 auN2 auc2) ∧ w'.cell? ⟨(w.heap.size + 1), 3, none⟩ = some (.slice edA2 edN2 edc2) ∧ w'.cell? ⟨(w.heap.size + 1), 4, none⟩ = some (.string ti2) ∧ w'.cell? ⟨(w.heap.size + 1), 5, none⟩ = some (.string co2) ∧ w'.cell? ⟨(w.heap.size + 1), 6, none⟩ = some (.string pu2) ∧ w'.cell? ⟨(w.heap.size + 1), 7, none⟩ = some (.int .i64 y2) ∧ w'.cell? ⟨(w.heap.size + 1), 8, none⟩ = some (.int .i64 m2) ∧ w'.cell? ⟨(w.heap.size + 1), 9, none⟩ = some (.int .i64 d2') ∧ w'.cell? ⟨(w.heap.size + 1), 10, none⟩ = some (.bool ci2) ∧ w'.cell? ⟨(w.heap.size + 1), 11, none⟩ = some (.int .i64 vol2) ∧ w'.cell? ⟨(w.heap.size + 1), 12, none⟩ = some (.string pa2) ∧ w'.cell? ⟨(w.heap.size + 1), 13, none⟩ = some (.string cr2)) ∧ Kept w12 w')
        (first | exact HY.out _ KY0.out | exact HY.out _ (by assumption))
        (first
          | (go_at_call 8; refine (eqEntry_same key2 kind2 vA auN2 auN2 vM vB edN2 edN2 vK ti2 co2 pu2 y2 m2 d2' ci2 vol2 pa2 cr2 pA pB auN2 edN2 pM pK _ (VR12.out.below hk13) pR (V1.out.trans p1.symm) (V2.out.trans p2.symm) ha2 he2 V3.out V4.out).mono ?_; rintro e w14 ⟨rfl, b14⟩; have hk14 : Kept w12 w14 := Kept.next hk13 b14)
          | (go_at_call 6; refine HTe.out.mono ?_; rintro e w13 ⟨pA, pM, pB, pK, rfl, pR, p1, p2, p3, p4, p5, p6, b13⟩; have hk13 : Kept w12 w13 := Kept.next KY0.out b13))
      have HK14 : Hid (Kept W0 w14) := Lib.hid (Kept.next HK12.out hk14)
      clear hk13 hk14 b13 b14 pR p1 p2 p3 p4 p5 p6
      (try clear hHeld)
      go_wp2_with fail
      go_ret
      exact ⟨rfl, HB.out.trans (Below.mono HK14.out HB.out.size)⟩
    · have ht2 : szE t (⟨key2, kind2, auA2, auN2, auc2, auL2, edA2, edN2, edc2, edL2, ti2, co2, pu2, y2, m2, d2', ci2, vol2, pa2, cr2⟩ : En) = -1 := by unfold szE; rw [if_neg z2']
      rw [ht2] at HSb
      clear hW0 hr hl hr2 hl2 hca hta ht ht2 z1 z2'
      obtain ⟨⟨e0, e1, e2, e3, e4, e5, e6, e7, e8, e9, e10, e11, e12, e13⟩, ⟨g0, g1, g2, g3, g4, g5, g6, g7, g8, g9, g10, g11, g12, g13⟩, -⟩ := HS.out _ KR
      go_enter Tryz.func3, Tryz.ntmps3
      go_wp2_with fail
      rw [← HW0.out]
      refine HSa.out.mono ?_
      rintro e w1 ⟨rfl, b1⟩
      have k1 : Kept W0 w1 := b1
      clear b1 e0 e1 e2 e3 e4 e5 e6 e7 e8 e9 e10 e11 e12 e13 g0 g1 g2 g3 g4 g5 g6 g7 g8 g9 g10 g11 g12 g13 HSa
      obtain ⟨⟨e0, e1, e2, e3, e4, e5, e6, e7, e8, e9, e10, e11, e12, e13⟩, ⟨g0, g1, g2, g3, g4, g5, g6, g7, g8, g9, g10, g11, g12, g13⟩, -⟩ := HS.out _ k1
      go_wp2_with fail
      refine (HSb.out _ k1).mono ?_
      rintro e w2 ⟨rfl, b2⟩
      have k2 := Kept.next k1 b2
      go_wp2_with fail
      go_ret
      exact ⟨rfl, HB.out.trans (Below.mono k2 HB.out.size)⟩
  · have hta : szE 1048576 (⟨key, kind, auA, auN, auc, auL, edA, edN, edc, edL, ti, co, pu, y, m, d, ci, vol, pa, cr⟩ : En) = -1 := by unfold szE; rw [if_neg z1]
    rw [hta] at HSa
    clear hW0 hr hl hr2 hl2 hca hta z1
    obtain ⟨⟨e0, e1, e2, e3, e4, e5, e6, e7, e8, e9, e10, e11, e12, e13⟩, ⟨g0, g1, g2, g3, g4, g5, g6, g7, g8, g9, g10, g11, g12, g13⟩, -⟩ := HS.out _ KR
    go_enter Tryz.func3, Tryz.ntmps3
    go_wp2_with fail
    rw [← HW0.out]
    refine HSa.out.mono ?_
    rintro e w1 ⟨rfl, b1⟩
    go_wp2_with fail
    go_ret
    exact ⟨rfl, HB.out.trans (b1.mono HB.out.size)⟩

set_option maxRecDepth 100000 in
theorem lifted (os : Os) (started : os.Started) (H : Type) (enc : TypeId × Value → H) :
    ReturnsInHanded {} Tryz.checked os 3 .any (fun w args => (Rows.fnExactCompareEntriesSpec.pre enc Tryz.prog Tryz.f3 Rows.fnExactCompareEntriesRow.domain false w args ∧ laidMetH Tryz.prog Rows.fnExactCompareEntriesRow.laid w) ∧ sizedMet enc Tryz.prog Tryz.f3 (OpenSpec.ofChange Rows.fnExactCompareEntriesSpec) false w args)
      (Rows.fnExactCompareEntriesSpec.post enc Tryz.prog Tryz.f3 false true false false) := by
  refine returnsInHanded_of_change_and (C := Tryz.checked) (X := fun w _ => laidMetH Tryz.prog Rows.fnExactCompareEntriesRow.laid w) (fun _ _ _ hh h => h.of_heap hh) own started (by kernel_rfl) Tryz.func3
    (ChangeSpec.witness_shaped (enc := enc) (C := Tryz.checked) (os := os) (X := fun w _ => laidMetH Tryz.prog Rows.fnExactCompareEntriesRow.laid w) false (World.laidAll Tryz.prog os Rows.fnExactCompareEntriesRow.laid) #[.agg #[.string ByteArray.empty, .int .i64 0, .slice none 0 0, .slice none 0 0, .string ByteArray.empty, .string ByteArray.empty, .string ByteArray.empty, .int .i64 0, .int .i64 0, .int .i64 0, .bool false, .int .i64 0, .string ByteArray.empty, .string ByteArray.empty], .agg #[.string ByteArray.empty, .int .i64 0, .slice none 0 0, .slice none 0 0, .string ByteArray.empty, .string ByteArray.empty, .string ByteArray.empty, .int .i64 0, .int .i64 0, .int .i64 0, .bool false, .int .i64 0, .string ByteArray.empty, .string ByteArray.empty]] 8 (World.laidAll_os _ _ _)
      (World.shaped_of_ZipB (by kernel_rfl) (by kernel_rfl)) (by kernel_rfl) (by kernel_rfl) (by kernel_rfl)
      (by rw [MakeChecks.laidMetH_plain _ _ _ (by kernel_rfl)]; exact laidMet_laidAll _ (by kernel_rfl) (by kernel_rfl))) ?_
  intro W base args ds gs before hval0 hW hcnd _ hL _
  rw [MakeChecks.laidMetH_plain _ _ _ (by kernel_rfl)] at hL
  have hval : ∀ (j : Nat) t v, Tryz.f3.params[j]? = some t → args[j]? = some v → Value.okWide Tryz.prog W .any base t v := hval0
  have hW' := hW
  obtain ⟨p, q, hA0, hV, rfl, hfz, hnd⟩ := hW
  have hA : DataW.TrodAll enc Tryz.prog W 0 (fun _ => true) true Tryz.f3.params.toList args.toList ds p := hA0
  rw [Tryz.params3] at hA hval
  obtain ⟨v0, vs0, d0, ds0, p0, q0, hargs, rfl, rfl, h0, r0⟩ := trodAll_cons hA
  obtain ⟨v1, vs1, d1, ds1, p1, q1, rfl, rfl, rfl, h1, r1⟩ := trodAll_cons r0
  obtain ⟨rfl, rfl, rfl⟩ := trodAll_nil r1
  obtain rfl : args = #[v0, v1] := by cases args; simp_all
  obtain ⟨rfl, rfl⟩ := trodVars_none hV
  have k0 := h0
  have lt0 : ∀ x ∈ p0, x.block < W.heap.size := by obtain ⟨m, hm⟩ := k0; exact DataW.trod_lt m _ _ _ hm
  have k1 := h1
  have lt1 : ∀ x ∈ p1, x.block < W.heap.size := by obtain ⟨m, hm⟩ := k1; exact DataW.trod_lt m _ _ _ hm
  obtain ⟨⟨key, kind, auA, auN, auc, auL, edA, edN, edc, edL, ti, co, pu, y, m, d, ci, vol, pa, cr⟩, rfl, hr0, hl0⟩ := open_entry (hval 0 26 v0 rfl rfl) h0
  obtain ⟨⟨key_1, kind_1, auA_1, auN_1, auc_1, auL_1, edA_1, edN_1, edc_1, edL_1, ti_1, co_1, pu_1, y_1, m_1, d_1, ci_1, vol_1, pa_1, cr_1⟩, rfl, hr1, hl1⟩ := open_entry (hval 1 26 v1 rfl rfl) h1
  clear hA0 hval0
  refine (walk key kind auA auN auc auL edA edN edc edL ti co pu y m d ci vol pa cr key_1 kind_1 auA_1 auN_1 auc_1 auL_1 edA_1 edN_1 edc_1 edL_1 ti_1 co_1 pu_1 y_1 m_1 d_1 ci_1 vol_1 pa_1 cr_1 W hr0 hl0 hr1 hl1 (tabs_of hL)).mono fun e W' ⟨he, bel⟩ => ?_
  subst he
  exact ⟨_, rfl, _, _, _, [], _, [], hW', trodAll_mk1 (shut_bool Tryz.underlying4 _), (trodAll_cons_mk (Below.trod laidOut (by kernel_rfl) (of_decide_eq_true (by kernel_rfl)) k0 bel lt0) (trodAll_cons_mk (Below.trod laidOut (by kernel_rfl) (of_decide_eq_true (by kernel_rfl)) k1 bel lt1) trodAll_mk0)), rfl, bel.frame _, fun h => by cases h⟩

theorem closed : joinedFacts Tryz.pinned.checked.prog 3 Tryz.f3 Rows.fnExactCompareEntriesSpec Rows.fnExactCompareEntriesRow = true := by kernel_rfl
theorem over : Rows.fnExactCompareEntriesRow.holds Tryz.pinned (OpenSpec.ofChange Rows.fnExactCompareEntriesSpec) :=
  OpenClaim.holds_of_wide 3 Tryz.f3 rfl rfl rfl rfl rfl rfl rfl ⟨rfl, rfl, rfl, rfl, rfl⟩ rfl rfl rfl rfl rfl (by kernel_rfl) Tryz.func3 closed
    (of_decide_eq_true (by kernel_rfl)) (by unfold Func.isWrapper; first | (rw [if_pos (by decide +kernel)]; kernel_rfl) | (rw [if_neg (by decide +kernel)]; exact ⟨rfl, rfl⟩))
    (fun os started H enc _ => lifted os started H enc)

theorem plain (f : FuncId) (fn : Func) (hf : Tryz.pinned.checked.prog.funcNamed "loop.example/g00896/laws.FnExactCompareEntries" = some f) (hfn : Tryz.pinned.checked.prog.funcs[f]? = some fn) :
    false = Tryz.pinned.checked.prog.looks [] ∧ ∀ (j : Nat) t, fn.params[j]? = some t → Tryz.pinned.checked.prog.wantsStandIn t = false := by
  obtain rfl : f = 3 := Option.some.inj ((show Tryz.prog.funcNamed "loop.example/g00896/laws.FnExactCompareEntries" = some 3 by kernel_rfl).symm.trans hf) |>.symm
  obtain rfl : fn = Tryz.f3 := (Option.some.inj (Tryz.func3.symm.trans hfn)).symm
  refine ⟨by kernel_rfl, fun j t ht => ?_⟩
  rw [Tryz.params3] at ht
  obtain rfl : t = 26 := by simpa using Array.mem_of_getElem? ht
  exact (show Tryz.prog.wantsStandIn 26 = false by kernel_rfl)

theorem card : Rows.FnExactCompareEntriesCardSaid :=
  Claim7.holds_tied_plain_at .later [] _ _ _ _ over (fun _ h => by cases h) (by kernel_rfl) (fun _ h => by cases h) fnExactCompareEntries_row_tie rfl ⟨rfl, rfl⟩ (by kernel_rfl) rfl plain (by kernel_rfl)
#print axioms card
end Go.Proofs.YtmopncojgkmkpaaGreatDoor.fnExactCompareEntries
