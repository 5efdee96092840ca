/-
  Several texts of one claim in one file: Jn2, Mn.
-/
import Derived.Test.YteccmlpibbchbaaGreatDoorJn
import Derived.Test.YteccmlpibbchbaaGreatDoorL1In
import Derived.Test.YteccmlpibbchbaaGreatDoorEn
import Derived.Test.YteccmlpibbchbaaGreatDoorVe
/-
  Contracts of l2Names and of JoinNames of both.
-/
namespace Go.Proofs.YteccmlpibbchbaaGreatDoor.Jn
open Go.RowKit Pl Strs Help Name Stands SplitPl NmPl Word Part NGood Forms Cut IniPl Ini Nms
open Cmp (ok_small)
set_option linter.unusedSimpArgs false
set_option linter.unusedVariables false

theorem short_size {xs : List ByteArray} {p f s : ByteArray} (h : okN xs p f s = true) : (ba (shortL xs p f s)).size ≤ 100000 := by
  have e : shortL xs p f s = jn (ls [ba (iniL xs p f s), p, f]) := by simp [shortL, ls, toList_ba]
  have h1 := jn_len [ba (iniL xs p f s), p, f]
  have h2 := jn_len (inis xs)
  have h3 := inis_lens (caps_size (okN_caps h))
  rw [inis_len] at h2
  have h4 := ok_small h
  rw [ba_size, e]
  have h5 : (ba (iniL xs p f s)).size = (jn (ls (inis xs))).length := by rw [ba_size]; rfl
  simp [lens] at h1
  omega
/-- the short form of a name -/
def shB (x : Nm) : ByteArray := ba (shortL x.xs x.p x.f x.s)
def forms (L : List Nm) : List ByteArray := L.map shB
theorem forms_len (L : List Nm) : (forms L).length = L.length := by simp [forms]
theorem forms_size {L : List Nm} (h : ∀ x ∈ L, x.ok = true) : ∀ y ∈ forms L, y.size ≤ 100000 := by
  intro y hy
  obtain ⟨x, hx, rfl⟩ := List.mem_map.1 hy
  exact short_size (h x hx)
theorem ls_forms (L : List Nm) {k : Nat} {x : Nm} (h : L[k]? = some x) : (ls (forms L)).getD k [] = (shB x).data.toList := by
  rw [List.getD_eq_getElem?_getD]
  simp [ls, forms, h]
theorem jpre_succ (F : List (List UInt8)) (k : Nat) : jpre F (k + 1) = jpre F k ++ ((if k = 0 then [] else if k + 1 = F.length then nd else cm) ++ F.getD k []) := rfl

/-- what JoinNames answers -/
def jnV (L : List Nm) (z : Int) : Value := if okL L = true ∧ 1 ≤ z ∧ z ≤ 4 then .tuple #[.string (ba (jnB (ls (forms L)) z.toNat)), .bool true] else .tuple #[.string ⟨#[]⟩, .bool false]
theorem jnV_form (L : List Nm) (z : Int) : ∃ s r, jnV L z = .tuple #[.string s, .bool r] := by unfold jnV; split <;> exact ⟨_, _, rfl⟩
theorem ok_key (L : List Nm) : L.all Nm.ok = (L.map Nm.key).all fun k => okN k.1 k.2.1 k.2.2.1 k.2.2.2 := by
  rw [List.all_map]; rfl
theorem forms_key (L : List Nm) : forms L = (L.map Nm.key).map fun k => ba (shortL k.1 k.2.1 k.2.2.1 k.2.2.2) := by
  rw [List.map_map]; rfl
theorem len_key {L M : List Nm} (h : L.map Nm.key = M.map Nm.key) : L.length = M.length := by
  have := congrArg List.length h
  simpa using this
theorem okL_key {L M : List Nm} (h : L.map Nm.key = M.map Nm.key) : okL L = okL M := by
  unfold okL
  rw [ok_key, ok_key, h, len_key h]
theorem jnV_key {L M : List Nm} (h : L.map Nm.key = M.map Nm.key) (z : Int) : jnV L z = jnV M z := by
  unfold jnV
  rw [okL_key h, forms_key, forms_key, h]

set_option maxRecDepth 100000 in
set_option maxHeartbeats 4000000 in
theorem implJoin (A : Option Addr) (c N : Nat) (z : Int) (L : List Nm) (w : World) (h : RdN0 w A L) (hn : L.length = N) (hN : N ≤ 1048576) (hz : ∀ x ∈ L, x.sz ≤ 1048576) :
    Calls Tryz.prog 139 #[.slice A N c, .int .i64 z] w fun e w' => e = .returned (jnV L z) ∧ Below w.heap.size w w' := by
  have hlim : ∀ x ∈ L, x.n ≤ 1048576 ∧ x.p.size ≤ 1048576 := fun x hx => by
    have h1 := hz x hx
    obtain ⟨k, hk, rfl⟩ := List.getElem_of_mem hx
    have h2 := (h k _ (List.getElem?_eq_getElem hk)).1.2.2
    unfold Nm.sz at h1
    omega
  have HL := Lib.hid (isList A c N L w (h.sized hlim) hn hN)
  have H0 := Lib.hid h
  have HN := Lib.hid hn
  cases hok : okL L with
  | false =>
    have HE : Hid (jnV L z = .tuple #[.string ⟨#[]⟩, .bool false]) := Lib.hid (if_neg (fun h => by rw [hok] at h; cases h.1))
    rw [hok] at HL
    clear h hok hlim
    go_enter Tryz.func139, Tryz.ntmps139
    go_wp2_with fail
    refine HL.out.mono ?_
    rintro e w1 ⟨rfl, b1⟩
    go_wp2_with fail
    go_ret2
    exact ⟨by rw [HE.out]; rfl, b1⟩
  | true =>
    rw [hok] at HL
    obtain ⟨hl4, hall⟩ := okL_yes hok
    by_cases hr : 1 ≤ z ∧ z ≤ 4
    · have HE : Hid (jnV L z = .tuple #[.string (ba (jnB (ls (forms L)) z.toNat)), .bool true]) := Lib.hid (if_pos ⟨hok, hr⟩)
      obtain ⟨q, rfl⟩ := Int.eq_ofNat_of_zero_le (show 0 ≤ z by omega)
      simp only [Int.toNat_natCast] at HE
      have HAll := Lib.hid hall
      have hq1 : 1 ≤ q := by omega
      have hq4 : q ≤ 4 := by omega
      have hN4 : N ≤ 4 := by omega
      clear h hok hl4 hall hr hlim hz
      obtain ⟨i0, hi, hz0, hz1, hz2⟩ := info_parts Split.infoStr
      go_enter Tryz.func139, Tryz.ntmps139
      go_wp2_with fail
      refine HL.out.mono ?_
      rintro e w1 ⟨rfl, b1⟩
      have HB1 := Lib.hid b1
      clear b1
      go_wp2_with fail
      go_loopw [6, 23] (fun v i wr => ∃ k : Nat, k ≤ N ∧ i = .int .i64 k ∧ wr.ownsRow w1.heap.size 9 1 v k (((forms L).take k).map Value.string) ∧ Below w1.heap.size w1 wr) (fun _ i _ => N - (intOf i).toNat)
      case atStart => exact ⟨0, Nat.zero_le _, rfl, World.ownsRow_lit w1 #[] 0 (Nat.le_refl _) (Nat.zero_le _) rfl, (Below.refl _ _).alloc (Nat.le_refl _) _⟩
      case round =>
        obtain ⟨k, hk, rfl, hown, hbe⟩ := hrel
        have hb0 := HB1.out.trans (hbe.mono HB1.out.size)
        by_cases hlt : k < N
        · have hkx : k < L.length := by rw [HN.out]; exact hlt
          have hx? := List.getElem?_eq_getElem hkx
          obtain ⟨hr, g, o, rfl, hg, h0, h1, h2, h3⟩ := (H0.out.below hb0) k L[k] hx?
          have hxk := HAll.out _ (List.getElem_mem hkx)
          have HFk : Hid ((forms L).take (k + 1) = (forms L).take k ++ [shB L[k]]) := Lib.hid (by
            rw [List.take_add_one]
            congr 1
            simp [forms, hx?])
          clear hx?
          generalize L[k] = x at *
          obtain ⟨A1, n1, c1, xs, p, f, s⟩ := x
          dsimp only at hr h0 h1 h2 h3
          have hok : okN xs p f s = true := hxk
          have hsm := ok_small hok
          have hn1 := hr.2.2
          have b5 := (Below.refl _ wr).alloc (Nat.le_refl _) (.cells #[.slice A1 n1 c1, .string p, .string f, .string s] 111)
          have HSh := Lib.hid (implShort A1 c1 n1 xs p f s _ (hr.below b5) (okN_caps hok) (by omega) (by omega))
          have HFk2 : Hid ((forms L).take (k + 1) = (forms L).take k ++ [ba (shortL xs p f s)]) := HFk
          clear HFk hxk hok hsm hr
          generalize ba (shortL xs p f s) = y at *
          go_wp2_with fail
          refine HSh.out.mono ?_
          rintro e w2 ⟨rfl, b2⟩
          have b25 := b5.trans (b2.mono b5.size)
          have hown2 := own_kept hown b25
          have hbe2 := hbe.trans (b25.mono hbe.size)
          have hbs2 := hbe2.size
          clear hown b2 b5 HSh
          go_wp2_with (first
            | (at_builtin; refine wpList_append_own _ rfl _ _ 61 rfl w1.heap.size 9 i0 (.string ByteArray.empty) 1 16 Tryz.underlying61 hi hz0 hz1 hz2 rfl (by decide) _ _ _ rfl (hown2.alloc _) ⟨w2.heap.size, 0, none⟩ 1 1 [.string y] rfl rfl (cell_one_new _ _ _) (by simp [Value.oneCell']) (by unfold maxLen; omega) (by omega) (by simp; omega) ?_; intro v' w3 hown' hgrow _)
            | go_in)
          go_roundw
          case rel =>
            refine ⟨k + 1, by omega, by go_num, ?_, (hbe2.alloc hbe2.size _).grown hgrow (by simp; have := hbe2.size; omega) (fun g hg => (hown2.lt g hg).1)⟩
            rw [HFk2.out]
            simpa using hown'
          case measure => simp [intOf]; omega
        · obtain rfl : k = N := by omega
          have HT : Hid ((forms L).take k = forms L) := Lib.hid (List.take_of_length_le (by rw [forms_len, HN.out]; exact Nat.le_refl _))
          rw [HT.out] at hown
          obtain ⟨A1, c1, rfl, _, _, _⟩ := own_rds hown
          have hcap := own_cap hown
          have HJ := Lib.hid (joinForms A1 c1 _ q (forms L) wr (Rdn.own hown) hcap hN4 hq1 hq4 (forms_size HAll.out))
          clear hown hcap
          generalize ba (jnB (ls (forms L)) q) = y at *
          go_wp2_with fail
          refine HJ.out.mono ?_
          rintro e w2 ⟨rfl, b2⟩
          have k2 := hb0.trans (b2.mono hb0.size)
          go_wp2_with fail
          go_ret2
          exact ⟨by rw [HE.out]; rfl, k2⟩
    · have HE : Hid (jnV L z = .tuple #[.string ⟨#[]⟩, .bool false]) := Lib.hid (if_neg (fun h => hr h.2))
      clear h hok hl4 hall hlim
      by_cases h1 : 1 ≤ z
      · have h4 : 4 < z := by omega
        have hd1 : decide (z < 1) = false := by simp; omega
        have hd4 : decide (4 < z) = true := by simp; omega
        clear hr
        go_enter Tryz.func139, Tryz.ntmps139
        go_wp2_with fail
        refine HL.out.mono ?_
        rintro e w1 ⟨rfl, b1⟩
        go_wp2_with fail
        go_ret2
        exact ⟨by rw [HE.out]; rfl, b1⟩
      · have hd1 : decide (z < 1) = true := by simp; omega
        clear hr
        go_enter Tryz.func139, Tryz.ntmps139
        go_wp2_with fail
        refine HL.out.mono ?_
        rintro e w1 ⟨rfl, b1⟩
        go_wp2_with fail
        go_ret2
        exact ⟨by rw [HE.out]; rfl, b1⟩
end Go.Proofs.YteccmlpibbchbaaGreatDoor.Jn
/-
  The main names of an entry, in both. (Parted from Ce.)
-/
namespace Go.Proofs.YteccmlpibbchbaaGreatDoor.Ce
open Go.RowKit Pl Strs Help Name Stands SplitPl NmPl Word Part NGood Nms Ens Jn
set_option linter.unusedSimpArgs false
set_option linter.unusedVariables false

set_option maxHeartbeats 1000000 in
theorem main_i (key : ByteArray) (kind : Int) (auA : Option Addr) (auN : Nat) (auc : Nat) (auL : List Nm) (edA : Option Addr) (edN : Nat) (edc : Nat) (edL : List Nm) (ti : ByteArray) (co : ByteArray) (pu : ByteArray) (y : Int) (m : Int) (d : Int) (ci : Bool) (vol : Int) (pa : ByteArray) (cr : ByteArray) (mA : Option Addr) (mN mc : Nat) (w : World) (hm : (if 0 < auN then (auA, auN, auc) else (edA, edN, edc)) = (mA, mN, mc)) :
    Calls Tryz.prog 102 #[.agg #[.string key, .int .i64 kind, .slice auA auN auc, .slice edA edN edc, .string ti, .string co, .string pu, .int .i64 y, .int .i64 m, .int .i64 d, .bool ci, .int .i64 vol, .string pa, .string cr]] w fun e w' => e = .returned (.slice mA mN mc) ∧ Below w.heap.size w w' := by
  have HB := Lib.hid ((Below.refl _ w).alloc (Nat.le_refl _) (.cells #[.string key, .int .i64 kind, .slice auA auN auc, .slice edA edN edc, .string ti, .string co, .string pu, .int .i64 y, .int .i64 m, .int .i64 d, .bool ci, .int .i64 vol, .string pa, .string cr] 58))
  by_cases h : 0 < auN
  · rw [if_pos h] at hm
    simp only [Prod.mk.injEq] at hm
    obtain ⟨rfl, rfl, rfl⟩ := hm
    go_enter Tryz.func102, Tryz.ntmps102
    go_wp2_with fail
    go_ret
    exact ⟨rfl, HB.out⟩
  · rw [if_neg h] at hm
    simp only [Prod.mk.injEq] at hm
    obtain ⟨rfl, rfl, rfl⟩ := hm
    go_enter Tryz.func102, Tryz.ntmps102
    go_wp2_with fail
    go_ret
    exact ⟨rfl, HB.out⟩
set_option maxHeartbeats 1000000 in
theorem main_s (key : ByteArray) (kind : Int) (auA : Option Addr) (auN : Nat) (auc : Nat) (auL : List Nm) (edA : Option Addr) (edN : Nat) (edc : Nat) (edL : List Nm) (ti : ByteArray) (co : ByteArray) (pu : ByteArray) (y : Int) (m : Int) (d : Int) (ci : Bool) (vol : Int) (pa : ByteArray) (cr : ByteArray) (mA : Option Addr) (mN mc : Nat) (w : World) (hm : (if 0 < auN then (auA, auN, auc) else (edA, edN, edc)) = (mA, mN, mc)) :
    Calls Tryz.prog 68 #[.agg #[.string key, .int .i64 kind, .slice auA auN auc, .slice edA edN edc, .string ti, .string co, .string pu, .int .i64 y, .int .i64 m, .int .i64 d, .bool ci, .int .i64 vol, .string pa, .string cr]] w fun e w' => e = .returned (.slice mA mN mc) ∧ Below w.heap.size w w' := by
  have HB := Lib.hid ((Below.refl _ w).alloc (Nat.le_refl _) (.cells #[.string key, .int .i64 kind, .slice auA auN auc, .slice edA edN edc, .string ti, .string co, .string pu, .int .i64 y, .int .i64 m, .int .i64 d, .bool ci, .int .i64 vol, .string pa, .string cr] 58))
  by_cases h : 0 < auN
  · rw [if_pos h] at hm
    simp only [Prod.mk.injEq] at hm
    obtain ⟨rfl, rfl, rfl⟩ := hm
    go_enter Tryz.func68, Tryz.ntmps68
    go_wp2_with fail
    go_ret
    exact ⟨rfl, HB.out⟩
  · rw [if_neg h] at hm
    simp only [Prod.mk.injEq] at hm
    obtain ⟨rfl, rfl, rfl⟩ := hm
    go_enter Tryz.func68, Tryz.ntmps68
    go_wp2_with fail
    go_ret
    exact ⟨rfl, HB.out⟩
theorem ok_parts {e : En} (h : okE e = true) : okL e.auL = true ∧ okL e.edL = true ∧ DtPl.okB e.y e.m e.d e.ci = true := by
  unfold okE at h
  simp only [Bool.and_eq_true] at h
  exact ⟨h.2.2.1, h.2.2.2.1, h.2.2.2.2.2.2.2.2.1⟩
/-- the main names -/
def mainL (e : En) : List Nm := if 0 < e.auN then e.auL else e.edL
theorem main_rd {e : En} {w : World} (h : e.Rd w) {mA : Option Addr} {mN mc : Nat} (hm : (if 0 < e.auN then (e.auA, e.auN, e.auc) else (e.edA, e.edN, e.edc)) = (mA, mN, mc)) : RdN0 w mA (mainL e) ∧ (mainL e).length = mN := by
  unfold mainL
  by_cases h0 : 0 < e.auN
  · rw [if_pos h0] at hm ⊢
    cases hm
    exact ⟨h.1, h.2.1⟩
  · rw [if_neg h0] at hm ⊢
    cases hm
    exact ⟨h.2.2.1, h.2.2.2⟩
theorem main_ok {e : En} (h : okE e = true) : (mainL e).length ≤ 4 ∧ ∀ x ∈ mainL e, x.ok = true := by
  obtain ⟨h1, h2, _⟩ := ok_parts h
  unfold mainL
  split
  · exact okL_yes h1
  · exact okL_yes h2
theorem main_pick (e : En) : ∃ mA mN mc, (if 0 < e.auN then (e.auA, e.auN, e.auc) else (e.edA, e.edN, e.edc)) = (mA, mN, mc) := ⟨_, _, _, rfl⟩
end Go.Proofs.YteccmlpibbchbaaGreatDoor.Ce
