/-
  An entry as a value and in a block; contracts of the laws' helper szEntry.
-/
import Derived.Test.YteccmlpibbchbaaGreatDoorNmH
namespace Go.Proofs.YteccmlpibbchbaaGreatDoor.Ens
open Go.RowKit Pl Strs Help Name Stands SplitPl NmPl Word Part NGood Nms
set_option linter.unusedSimpArgs false
set_option linter.unusedVariables false

/-- an entry with where its lists of names lie -/
structure En where
  key : ByteArray
  kind : Int
  auA : Option Addr
  auN : Nat
  auc : Nat
  auL : List Nm
  edA : Option Addr
  edN : Nat
  edc : Nat
  edL : List Nm
  ti : ByteArray
  co : ByteArray
  pu : ByteArray
  y : Int
  m : Int
  d : Int
  ci : Bool
  vol : Int
  pa : ByteArray
  cr : ByteArray
/-- its fourteen cells -/
@[reducible] def En.cs (e : En) : Array Value := #[.string e.key, .int .i64 e.kind, .slice e.auA e.auN e.auc, .slice e.edA e.edN e.edc, .string e.ti, .string e.co, .string e.pu, .int .i64 e.y, .int .i64 e.m, .int .i64 e.d, .bool e.ci, .int .i64 e.vol, .string e.pa, .string e.cr]
/-- its lists of names can be read -/
def En.Rd (e : En) (w : World) : Prop := RdN0 w e.auA e.auL ∧ e.auL.length = e.auN ∧ RdN0 w e.edA e.edL ∧ e.edL.length = e.edN
theorem En.Rd.below {e : En} {w w' : World} (h : e.Rd w) (hb : Below w.heap.size w w') : e.Rd w' := ⟨h.1.below hb, h.2.1, h.2.2.1.below hb, h.2.2.2⟩
/-- block b holds the entry -/
def E14 (W : World) (b : Nat) (e : En) : Prop := b < W.heap.size ∧ W.cell? ⟨b, 0, none⟩ = some (.string e.key) ∧ W.cell? ⟨b, 1, none⟩ = some (.int .i64 e.kind) ∧ W.cell? ⟨b, 2, none⟩ = some (.slice e.auA e.auN e.auc) ∧ W.cell? ⟨b, 3, none⟩ = some (.slice e.edA e.edN e.edc) ∧ W.cell? ⟨b, 4, none⟩ = some (.string e.ti) ∧ W.cell? ⟨b, 5, none⟩ = some (.string e.co) ∧ W.cell? ⟨b, 6, none⟩ = some (.string e.pu) ∧ W.cell? ⟨b, 7, none⟩ = some (.int .i64 e.y) ∧ W.cell? ⟨b, 8, none⟩ = some (.int .i64 e.m) ∧ W.cell? ⟨b, 9, none⟩ = some (.int .i64 e.d) ∧ W.cell? ⟨b, 10, none⟩ = some (.bool e.ci) ∧ W.cell? ⟨b, 11, none⟩ = some (.int .i64 e.vol) ∧ W.cell? ⟨b, 12, none⟩ = some (.string e.pa) ∧ W.cell? ⟨b, 13, none⟩ = some (.string e.cr)
theorem E14.new (w : World) (e : En) (t : TypeId) : E14 (w.alloc (.cells e.cs t)) w.heap.size e := ⟨by simp, by simp [En.cs], by simp [En.cs], by simp [En.cs], by simp [En.cs], by simp [En.cs], by simp [En.cs], by simp [En.cs], by simp [En.cs], by simp [En.cs], by simp [En.cs], by simp [En.cs], by simp [En.cs], by simp [En.cs], by simp [En.cs]⟩
theorem E14.below {W w' : World} {b : Nat} {e : En} (h : E14 W b e) (hb : Below W.heap.size W w') : E14 w' b e := by
  obtain ⟨h0, c0, c1, c2, c3, c4, c5, c6, c7, c8, c9, c10, c11, c12, c13⟩ := h
  exact ⟨Nat.lt_of_lt_of_le h0 hb.size, (hb.cell (p := ⟨b, 0, none⟩) h0).trans c0, (hb.cell (p := ⟨b, 1, none⟩) h0).trans c1, (hb.cell (p := ⟨b, 2, none⟩) h0).trans c2, (hb.cell (p := ⟨b, 3, none⟩) h0).trans c3, (hb.cell (p := ⟨b, 4, none⟩) h0).trans c4, (hb.cell (p := ⟨b, 5, none⟩) h0).trans c5, (hb.cell (p := ⟨b, 6, none⟩) h0).trans c6, (hb.cell (p := ⟨b, 7, none⟩) h0).trans c7, (hb.cell (p := ⟨b, 8, none⟩) h0).trans c8, (hb.cell (p := ⟨b, 9, none⟩) h0).trans c9, (hb.cell (p := ⟨b, 10, none⟩) h0).trans c10, (hb.cell (p := ⟨b, 11, none⟩) h0).trans c11, (hb.cell (p := ⟨b, 12, none⟩) h0).trans c12, (hb.cell (p := ⟨b, 13, none⟩) h0).trans c13⟩
/-- every part is a string or a slice -/
def En.Lim (e : En) : Prop := e.key.size ≤ maxLen ∧ e.auN ≤ maxLen ∧ (∀ x ∈ e.auL, x.Lim) ∧ e.edN ≤ maxLen ∧ (∀ x ∈ e.edL, x.Lim) ∧ e.ti.size ≤ maxLen ∧ e.co.size ≤ maxLen ∧ e.pu.size ≤ maxLen ∧ e.pa.size ≤ maxLen ∧ e.cr.size ≤ maxLen
/-- the measure of an entry -/
def En.sz (e : En) : Nat := e.key.size + (e.auN + szL e.auL) + (e.edN + szL e.edL) + e.ti.size + e.co.size + e.pu.size + e.pa.size + e.cr.size
def szE (left : Nat) (e : En) : Int := if e.sz ≤ left then (left : Int) - e.sz else -1
/-- what an entry says -/
def En.key4 (e : En) := (e.key, e.kind, e.auL.map Nm.key, e.edL.map Nm.key, e.ti, e.co, e.pu, (e.y, e.m, e.d, e.ci), e.vol, e.pa, e.cr)

theorem ret_i {a b : Int} (h : a = b) : Ending.returned (.int .i64 a) = .returned (.int .i64 b) := by rw [h]
set_option maxHeartbeats 8000000 in
theorem szEntry_any (key : ByteArray) (kind : Int) (auA : Option Addr) (auN auc : Nat) (auL : List Nm) (edA : Option Addr) (edN edc : Nat) (edL : List Nm) (ti : ByteArray) (co : ByteArray) (pu : ByteArray) (y : Int) (m : Int) (d : Int) (ci : Bool) (vol : Int) (pa : ByteArray) (cr : ByteArray) (left : Nat) (w : World) (hr : (⟨key, kind, auA, auN, auc, auL, edA, edN, edc, edL, ti, co, pu, y, m, d, ci, vol, pa, cr⟩ : En).Rd w) (hl : (⟨key, kind, auA, auN, auc, auL, edA, edN, edc, edL, ti, co, pu, y, m, d, ci, vol, pa, cr⟩ : En).Lim) (hle : left ≤ 1048576) :
    Calls Tryz.prog 45 #[.agg #[.string key, .int .i64 kind, .slice auA auN auc, .slice edA edN edc, .string ti, .string co, .string pu, .int .i64 y, .int .i64 m, .int .i64 d, .bool ci, .int .i64 vol, .string pa, .string cr], .int .i64 left] w fun e w' => e = .returned (.int .i64 (szE left ⟨key, kind, auA, auN, auc, auL, edA, edN, edc, edL, ti, co, pu, y, m, d, ci, vol, pa, cr⟩)) ∧ Below w.heap.size w w' := by
  obtain ⟨l1, l2, l3, l4, l5, l6, l7, l8, l9, l10⟩ := hl
  obtain ⟨r1, r2, r3, r4⟩ := hr
  dsimp only at *
  have HB := Lib.hid ((Below.refl _ w).alloc (Nat.le_refl _) (.cells #[.string key, .int .i64 kind, .slice auA auN auc, .slice edA edN edc, .string ti, .string co, .string pu, .int .i64 y, .int .i64 m, .int .i64 d, .bool ci, .int .i64 vol, .string pa, .string cr] 81))
  have HE := Lib.hid (E14.new w (⟨key, kind, auA, auN, auc, auL, edA, edN, edc, edL, ti, co, pu, y, m, d, ci, vol, pa, cr⟩ : En) 81)
  have HZ : Hid (szE left ⟨key, kind, auA, auN, auc, auL, edA, edN, edc, edL, ti, co, pu, y, m, d, ci, vol, pa, cr⟩ = if key.size + (auN + szL auL) + (edN + szL edL) + ti.size + co.size + pu.size + pa.size + cr.size ≤ left then (left : Int) - ((key.size + (auN + szL auL) + (edN + szL edL) + ti.size + co.size + pu.size + pa.size + cr.size : Nat) : Int) else -1) := Lib.hid rfl
  have HA := Lib.hid (fun (t : Nat) (ht : t ≤ 1048576) w' (hk : Below w.heap.size w w') => szNameS_any auA auc auN auL t w' (r1.below hk) r2 l2 l3 ht)
  have HD := Lib.hid (fun (t : Nat) (ht : t ≤ 1048576) w' (hk : Below w.heap.size w w') => szNameS_any edA edc edN edL t w' (r3.below hk) r4 l4 l5 ht)
  have HAz : Hid (∀ t : Nat, szNs t auL = if auN + szL auL ≤ t then (t : Int) - auN - szL auL else -1) := Lib.hid (fun t => by unfold szNs; rw [r2])
  have HDz : Hid (∀ t : Nat, szNs t edL = if edN + szL edL ≤ t then (t : Int) - edN - szL edL else -1) := Lib.hid (fun t => by unfold szNs; rw [r4])
  unfold maxLen at l1 l2 l4 l6 l7 l8 l9 l10
  clear r1 r2 r3 r4 l3 l5
  generalize szL auL = ta at *
  generalize szL edL = te at *
  generalize szE left ⟨key, kind, auA, auN, auc, auL, edA, edN, edc, edL, ti, co, pu, y, m, d, ci, vol, pa, cr⟩ = z at *
  by_cases h0 : (key.size) ≤ left
  · skip
    by_cases h1 : (key.size) + (auN + ta) ≤ left
    · skip
      by_cases h2 : (key.size) + (auN + ta) + (edN + te) ≤ left
      · skip
        by_cases h3 : (key.size) + (auN + ta) + (edN + te) + (ti.size) ≤ left
        · skip
          by_cases h4 : (key.size) + (auN + ta) + (edN + te) + (ti.size) + (co.size) ≤ left
          · skip
            by_cases h5 : (key.size) + (auN + ta) + (edN + te) + (ti.size) + (co.size) + (pu.size) ≤ left
            · skip
              by_cases h6 : (key.size) + (auN + ta) + (edN + te) + (ti.size) + (co.size) + (pu.size) + (pa.size) ≤ left
              · skip
                by_cases h7 : (key.size) + (auN + ta) + (edN + te) + (ti.size) + (co.size) + (pu.size) + (pa.size) + (cr.size) ≤ left
                · skip
                  have HF : Hid (z = ((left - (key.size + auN + ta + edN + te + ti.size + co.size + pu.size + pa.size + cr.size) : Nat) : Int)) := Lib.hid (by rw [HZ.out, if_pos (by omega)]; omega)
                  obtain ⟨t1, ht1⟩ : ∃ t1 : Nat, t1 + key.size = left := ⟨left - key.size, by omega⟩
                  have e1 : (left : Int) - (key.size : Int) = (t1 : Int) := by omega
                  have HA1 := Lib.hid (HA.out t1 (by omega))
                  obtain ⟨t2, ht2⟩ : ∃ t2 : Nat, t2 + (auN + ta) = t1 := ⟨t1 - (auN + ta), by omega⟩
                  rw [HAz.out t1, if_pos (by omega), show (t1 : Int) - auN - ta = (t2 : Int) by omega] at HA1
                  have HD1 := Lib.hid (HD.out t2 (by omega))
                  obtain ⟨t3, ht3⟩ : ∃ t3 : Nat, t3 + (edN + te) = t2 := ⟨t2 - (edN + te), by omega⟩
                  rw [HDz.out t2, if_pos (by omega), show (t2 : Int) - edN - te = (t3 : Int) by omega] at HD1
                  clear HA HD HAz HDz
                  go_enter Tryz.func45, Tryz.ntmps45
                  go_wp2_with fail
                  refine (HA1.out _ HB.out).mono ?_
                  rintro e w1 ⟨rfl, b1⟩
                  have k1 := HB.out.trans (b1.mono HB.out.size)
                  have HE1 := Lib.hid (HE.out.below b1)
                  clear b1
                  obtain ⟨hl, c0, c1, c2, c3, c4, c5, c6, c7, c8, c9, c10, c11, c12, c13⟩ := HE1.out
                  dsimp only at c0 c1 c2 c3 c4 c5 c6 c7 c8 c9 c10 c11 c12 c13
                  go_wp2_with fail
                  refine (HD1.out _ k1).mono ?_
                  rintro e w2 ⟨rfl, b2⟩
                  have k2 := k1.trans (b2.mono k1.size)
                  have HE2 := Lib.hid (HE1.out.below b2)
                  clear b2 hl c0 c1 c2 c3 c4 c5 c6 c7 c8 c9 c10 c11 c12 c13
                  obtain ⟨hl, c0, c1, c2, c3, c4, c5, c6, c7, c8, c9, c10, c11, c12, c13⟩ := HE2.out
                  dsimp only at c0 c1 c2 c3 c4 c5 c6 c7 c8 c9 c10 c11 c12 c13
                  go_wp2_with fail
                  go_ret
                  exact ⟨ret_i (by rw [HF.out]; omega), k2⟩
                · skip
                  have HF : Hid (z = -1) := Lib.hid (by rw [HZ.out, if_neg (by omega)])
                  obtain ⟨t1, ht1⟩ : ∃ t1 : Nat, t1 + key.size = left := ⟨left - key.size, by omega⟩
                  have e1 : (left : Int) - (key.size : Int) = (t1 : Int) := by omega
                  have HA1 := Lib.hid (HA.out t1 (by omega))
                  obtain ⟨t2, ht2⟩ : ∃ t2 : Nat, t2 + (auN + ta) = t1 := ⟨t1 - (auN + ta), by omega⟩
                  rw [HAz.out t1, if_pos (by omega), show (t1 : Int) - auN - ta = (t2 : Int) by omega] at HA1
                  have HD1 := Lib.hid (HD.out t2 (by omega))
                  obtain ⟨t3, ht3⟩ : ∃ t3 : Nat, t3 + (edN + te) = t2 := ⟨t2 - (edN + te), by omega⟩
                  rw [HDz.out t2, if_pos (by omega), show (t2 : Int) - edN - te = (t3 : Int) by omega] at HD1
                  clear HA HD HAz HDz
                  go_enter Tryz.func45, Tryz.ntmps45
                  go_wp2_with fail
                  refine (HA1.out _ HB.out).mono ?_
                  rintro e w1 ⟨rfl, b1⟩
                  have k1 := HB.out.trans (b1.mono HB.out.size)
                  have HE1 := Lib.hid (HE.out.below b1)
                  clear b1
                  obtain ⟨hl, c0, c1, c2, c3, c4, c5, c6, c7, c8, c9, c10, c11, c12, c13⟩ := HE1.out
                  dsimp only at c0 c1 c2 c3 c4 c5 c6 c7 c8 c9 c10 c11 c12 c13
                  go_wp2_with fail
                  refine (HD1.out _ k1).mono ?_
                  rintro e w2 ⟨rfl, b2⟩
                  have k2 := k1.trans (b2.mono k1.size)
                  have HE2 := Lib.hid (HE1.out.below b2)
                  clear b2 hl c0 c1 c2 c3 c4 c5 c6 c7 c8 c9 c10 c11 c12 c13
                  obtain ⟨hl, c0, c1, c2, c3, c4, c5, c6, c7, c8, c9, c10, c11, c12, c13⟩ := HE2.out
                  dsimp only at c0 c1 c2 c3 c4 c5 c6 c7 c8 c9 c10 c11 c12 c13
                  go_wp2_with fail
                  go_ret
                  exact ⟨by rw [HF.out]; rfl, k2⟩
              · skip
                have HF : Hid (z = -1) := Lib.hid (by rw [HZ.out, if_neg (by omega)])
                obtain ⟨t1, ht1⟩ : ∃ t1 : Nat, t1 + key.size = left := ⟨left - key.size, by omega⟩
                have e1 : (left : Int) - (key.size : Int) = (t1 : Int) := by omega
                have HA1 := Lib.hid (HA.out t1 (by omega))
                obtain ⟨t2, ht2⟩ : ∃ t2 : Nat, t2 + (auN + ta) = t1 := ⟨t1 - (auN + ta), by omega⟩
                rw [HAz.out t1, if_pos (by omega), show (t1 : Int) - auN - ta = (t2 : Int) by omega] at HA1
                have HD1 := Lib.hid (HD.out t2 (by omega))
                obtain ⟨t3, ht3⟩ : ∃ t3 : Nat, t3 + (edN + te) = t2 := ⟨t2 - (edN + te), by omega⟩
                rw [HDz.out t2, if_pos (by omega), show (t2 : Int) - edN - te = (t3 : Int) by omega] at HD1
                clear HA HD HAz HDz
                go_enter Tryz.func45, Tryz.ntmps45
                go_wp2_with fail
                refine (HA1.out _ HB.out).mono ?_
                rintro e w1 ⟨rfl, b1⟩
                have k1 := HB.out.trans (b1.mono HB.out.size)
                have HE1 := Lib.hid (HE.out.below b1)
                clear b1
                obtain ⟨hl, c0, c1, c2, c3, c4, c5, c6, c7, c8, c9, c10, c11, c12, c13⟩ := HE1.out
                dsimp only at c0 c1 c2 c3 c4 c5 c6 c7 c8 c9 c10 c11 c12 c13
                go_wp2_with fail
                refine (HD1.out _ k1).mono ?_
                rintro e w2 ⟨rfl, b2⟩
                have k2 := k1.trans (b2.mono k1.size)
                have HE2 := Lib.hid (HE1.out.below b2)
                clear b2 hl c0 c1 c2 c3 c4 c5 c6 c7 c8 c9 c10 c11 c12 c13
                obtain ⟨hl, c0, c1, c2, c3, c4, c5, c6, c7, c8, c9, c10, c11, c12, c13⟩ := HE2.out
                dsimp only at c0 c1 c2 c3 c4 c5 c6 c7 c8 c9 c10 c11 c12 c13
                go_wp2_with fail
                go_ret
                exact ⟨by rw [HF.out]; rfl, k2⟩
            · skip
              have HF : Hid (z = -1) := Lib.hid (by rw [HZ.out, if_neg (by omega)])
              obtain ⟨t1, ht1⟩ : ∃ t1 : Nat, t1 + key.size = left := ⟨left - key.size, by omega⟩
              have e1 : (left : Int) - (key.size : Int) = (t1 : Int) := by omega
              have HA1 := Lib.hid (HA.out t1 (by omega))
              obtain ⟨t2, ht2⟩ : ∃ t2 : Nat, t2 + (auN + ta) = t1 := ⟨t1 - (auN + ta), by omega⟩
              rw [HAz.out t1, if_pos (by omega), show (t1 : Int) - auN - ta = (t2 : Int) by omega] at HA1
              have HD1 := Lib.hid (HD.out t2 (by omega))
              obtain ⟨t3, ht3⟩ : ∃ t3 : Nat, t3 + (edN + te) = t2 := ⟨t2 - (edN + te), by omega⟩
              rw [HDz.out t2, if_pos (by omega), show (t2 : Int) - edN - te = (t3 : Int) by omega] at HD1
              clear HA HD HAz HDz
              go_enter Tryz.func45, Tryz.ntmps45
              go_wp2_with fail
              refine (HA1.out _ HB.out).mono ?_
              rintro e w1 ⟨rfl, b1⟩
              have k1 := HB.out.trans (b1.mono HB.out.size)
              have HE1 := Lib.hid (HE.out.below b1)
              clear b1
              obtain ⟨hl, c0, c1, c2, c3, c4, c5, c6, c7, c8, c9, c10, c11, c12, c13⟩ := HE1.out
              dsimp only at c0 c1 c2 c3 c4 c5 c6 c7 c8 c9 c10 c11 c12 c13
              go_wp2_with fail
              refine (HD1.out _ k1).mono ?_
              rintro e w2 ⟨rfl, b2⟩
              have k2 := k1.trans (b2.mono k1.size)
              have HE2 := Lib.hid (HE1.out.below b2)
              clear b2 hl c0 c1 c2 c3 c4 c5 c6 c7 c8 c9 c10 c11 c12 c13
              obtain ⟨hl, c0, c1, c2, c3, c4, c5, c6, c7, c8, c9, c10, c11, c12, c13⟩ := HE2.out
              dsimp only at c0 c1 c2 c3 c4 c5 c6 c7 c8 c9 c10 c11 c12 c13
              go_wp2_with fail
              go_ret
              exact ⟨by rw [HF.out]; rfl, k2⟩
          · skip
            have HF : Hid (z = -1) := Lib.hid (by rw [HZ.out, if_neg (by omega)])
            obtain ⟨t1, ht1⟩ : ∃ t1 : Nat, t1 + key.size = left := ⟨left - key.size, by omega⟩
            have e1 : (left : Int) - (key.size : Int) = (t1 : Int) := by omega
            have HA1 := Lib.hid (HA.out t1 (by omega))
            obtain ⟨t2, ht2⟩ : ∃ t2 : Nat, t2 + (auN + ta) = t1 := ⟨t1 - (auN + ta), by omega⟩
            rw [HAz.out t1, if_pos (by omega), show (t1 : Int) - auN - ta = (t2 : Int) by omega] at HA1
            have HD1 := Lib.hid (HD.out t2 (by omega))
            obtain ⟨t3, ht3⟩ : ∃ t3 : Nat, t3 + (edN + te) = t2 := ⟨t2 - (edN + te), by omega⟩
            rw [HDz.out t2, if_pos (by omega), show (t2 : Int) - edN - te = (t3 : Int) by omega] at HD1
            clear HA HD HAz HDz
            go_enter Tryz.func45, Tryz.ntmps45
            go_wp2_with fail
            refine (HA1.out _ HB.out).mono ?_
            rintro e w1 ⟨rfl, b1⟩
            have k1 := HB.out.trans (b1.mono HB.out.size)
            have HE1 := Lib.hid (HE.out.below b1)
            clear b1
            obtain ⟨hl, c0, c1, c2, c3, c4, c5, c6, c7, c8, c9, c10, c11, c12, c13⟩ := HE1.out
            dsimp only at c0 c1 c2 c3 c4 c5 c6 c7 c8 c9 c10 c11 c12 c13
            go_wp2_with fail
            refine (HD1.out _ k1).mono ?_
            rintro e w2 ⟨rfl, b2⟩
            have k2 := k1.trans (b2.mono k1.size)
            have HE2 := Lib.hid (HE1.out.below b2)
            clear b2 hl c0 c1 c2 c3 c4 c5 c6 c7 c8 c9 c10 c11 c12 c13
            obtain ⟨hl, c0, c1, c2, c3, c4, c5, c6, c7, c8, c9, c10, c11, c12, c13⟩ := HE2.out
            dsimp only at c0 c1 c2 c3 c4 c5 c6 c7 c8 c9 c10 c11 c12 c13
            go_wp2_with fail
            go_ret
            exact ⟨by rw [HF.out]; rfl, k2⟩
        · skip
          have HF : Hid (z = -1) := Lib.hid (by rw [HZ.out, if_neg (by omega)])
          obtain ⟨t1, ht1⟩ : ∃ t1 : Nat, t1 + key.size = left := ⟨left - key.size, by omega⟩
          have e1 : (left : Int) - (key.size : Int) = (t1 : Int) := by omega
          have HA1 := Lib.hid (HA.out t1 (by omega))
          obtain ⟨t2, ht2⟩ : ∃ t2 : Nat, t2 + (auN + ta) = t1 := ⟨t1 - (auN + ta), by omega⟩
          rw [HAz.out t1, if_pos (by omega), show (t1 : Int) - auN - ta = (t2 : Int) by omega] at HA1
          have HD1 := Lib.hid (HD.out t2 (by omega))
          obtain ⟨t3, ht3⟩ : ∃ t3 : Nat, t3 + (edN + te) = t2 := ⟨t2 - (edN + te), by omega⟩
          rw [HDz.out t2, if_pos (by omega), show (t2 : Int) - edN - te = (t3 : Int) by omega] at HD1
          clear HA HD HAz HDz
          go_enter Tryz.func45, Tryz.ntmps45
          go_wp2_with fail
          refine (HA1.out _ HB.out).mono ?_
          rintro e w1 ⟨rfl, b1⟩
          have k1 := HB.out.trans (b1.mono HB.out.size)
          have HE1 := Lib.hid (HE.out.below b1)
          clear b1
          obtain ⟨hl, c0, c1, c2, c3, c4, c5, c6, c7, c8, c9, c10, c11, c12, c13⟩ := HE1.out
          dsimp only at c0 c1 c2 c3 c4 c5 c6 c7 c8 c9 c10 c11 c12 c13
          go_wp2_with fail
          refine (HD1.out _ k1).mono ?_
          rintro e w2 ⟨rfl, b2⟩
          have k2 := k1.trans (b2.mono k1.size)
          have HE2 := Lib.hid (HE1.out.below b2)
          clear b2 hl c0 c1 c2 c3 c4 c5 c6 c7 c8 c9 c10 c11 c12 c13
          obtain ⟨hl, c0, c1, c2, c3, c4, c5, c6, c7, c8, c9, c10, c11, c12, c13⟩ := HE2.out
          dsimp only at c0 c1 c2 c3 c4 c5 c6 c7 c8 c9 c10 c11 c12 c13
          go_wp2_with fail
          go_ret
          exact ⟨by rw [HF.out]; rfl, k2⟩
      · skip
        have HF : Hid (z = -1) := Lib.hid (by rw [HZ.out, if_neg (by omega)])
        obtain ⟨t1, ht1⟩ : ∃ t1 : Nat, t1 + key.size = left := ⟨left - key.size, by omega⟩
        have e1 : (left : Int) - (key.size : Int) = (t1 : Int) := by omega
        have HA1 := Lib.hid (HA.out t1 (by omega))
        obtain ⟨t2, ht2⟩ : ∃ t2 : Nat, t2 + (auN + ta) = t1 := ⟨t1 - (auN + ta), by omega⟩
        rw [HAz.out t1, if_pos (by omega), show (t1 : Int) - auN - ta = (t2 : Int) by omega] at HA1
        have HD1 := Lib.hid (HD.out t2 (by omega))
        rw [HDz.out t2, if_neg (by omega)] at HD1
        clear HA HD HAz HDz
        go_enter Tryz.func45, Tryz.ntmps45
        go_wp2_with fail
        refine (HA1.out _ HB.out).mono ?_
        rintro e w1 ⟨rfl, b1⟩
        have k1 := HB.out.trans (b1.mono HB.out.size)
        have HE1 := Lib.hid (HE.out.below b1)
        clear b1
        obtain ⟨hl, c0, c1, c2, c3, c4, c5, c6, c7, c8, c9, c10, c11, c12, c13⟩ := HE1.out
        dsimp only at c0 c1 c2 c3 c4 c5 c6 c7 c8 c9 c10 c11 c12 c13
        go_wp2_with fail
        refine (HD1.out _ k1).mono ?_
        rintro e w2 ⟨rfl, b2⟩
        have k2 := k1.trans (b2.mono k1.size)
        have HE2 := Lib.hid (HE1.out.below b2)
        clear b2 hl c0 c1 c2 c3 c4 c5 c6 c7 c8 c9 c10 c11 c12 c13
        obtain ⟨hl, c0, c1, c2, c3, c4, c5, c6, c7, c8, c9, c10, c11, c12, c13⟩ := HE2.out
        dsimp only at c0 c1 c2 c3 c4 c5 c6 c7 c8 c9 c10 c11 c12 c13
        go_wp2_with fail
        go_ret
        exact ⟨by rw [HF.out]; rfl, k2⟩
    · skip
      have HF : Hid (z = -1) := Lib.hid (by rw [HZ.out, if_neg (by omega)])
      obtain ⟨t1, ht1⟩ : ∃ t1 : Nat, t1 + key.size = left := ⟨left - key.size, by omega⟩
      have e1 : (left : Int) - (key.size : Int) = (t1 : Int) := by omega
      have HA1 := Lib.hid (HA.out t1 (by omega))
      rw [HAz.out t1, if_neg (by omega)] at HA1
      clear HA HD HAz HDz
      go_enter Tryz.func45, Tryz.ntmps45
      go_wp2_with fail
      refine (HA1.out _ HB.out).mono ?_
      rintro e w1 ⟨rfl, b1⟩
      have k1 := HB.out.trans (b1.mono HB.out.size)
      have HE1 := Lib.hid (HE.out.below b1)
      clear b1
      obtain ⟨hl, c0, c1, c2, c3, c4, c5, c6, c7, c8, c9, c10, c11, c12, c13⟩ := HE1.out
      dsimp only at c0 c1 c2 c3 c4 c5 c6 c7 c8 c9 c10 c11 c12 c13
      go_wp2_with fail
      go_ret
      exact ⟨by rw [HF.out]; rfl, k1⟩
  · skip
    have HF : Hid (z = -1) := Lib.hid (by rw [HZ.out, if_neg (by omega)])
    clear HA HD HAz HDz
    go_enter Tryz.func45, Tryz.ntmps45
    go_wp2_with fail
    go_ret
    exact ⟨by rw [HF.out]; rfl, HB.out⟩
end Go.Proofs.YteccmlpibbchbaaGreatDoor.Ens
