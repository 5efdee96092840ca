/-
  Drawing functions of chapter 7: pages, DrawMergePages, DrawLocatorText.
-/
import Derived.Test.YtocgpoafhocbbaaDoorPgDr
namespace Go.Proofs.YtocgpoafhocbbaaDoor.PgDr
open Go.RowKit Pl Cur Draw0 StN PgPl Pg
set_option linter.unusedVariables false
set_option linter.unusedSimpArgs false

theorem three_new (w : World) (a b c : Value) (t : TypeId) : ∀ (j : Nat) (u : Value), ([a, b, c] : List Value)[j]? = some u → (w.alloc (.cells #[a, b, c] t)).cell? ((⟨w.heap.size, 0, none⟩ : Addr).add j) = some u := by
  intro j u hj
  match j, hj with
  | 0, hj => simp at hj; subst hj; simp [Addr.add]
  | 1, hj => simp at hj; subst hj; simp [Addr.add]
  | 2, hj => simp at hj; subst hj; simp [Addr.add]
  | j + 3, hj => simp at hj
theorem form3 {w : World} {b n : Nat} {e : TypeId} {size : Nat} {v : Value} {xs : List Value} (h : w.ownsRow b e size v n xs) : ∃ A c, v = .slice A n c := by
  rcases h.2 with ⟨rfl, rfl⟩ | ⟨g, cap, cur, rfl, _⟩
  · exact ⟨none, 0, rfl⟩
  · exact ⟨_, _, rfl⟩
/-- a row of ranges of its own -/
def PgL (W : World) (B : Nat) (v : Value) (L : List Pr) : Prop := W.ownsRow B 34 3 v L.length (pcells L)
theorem PgL.kept {W W' : World} {B g : Nat} {v : Value} {L : List Pr} (h : PgL W B v L) (hg : W.grownBy W' (some g)) (hr : g < B) : PgL W' B v L := by
  refine World.ownsRow.kept h hg ?_
  cases hb : v.ownBlock with
  | none => exact .inl rfl
  | some j =>
    refine .inr fun e => ?_
    have h1 := (World.ownsRow.lt h j hb).1
    cases e
    omega
theorem PgL.row {W : World} {B n : Nat} {v : Value} {L : List Pr} (h : PgL W B v L) (hn : n = L.length) : W.ownsRow B 34 3 v n (pcells L) := hn ▸ h
theorem PgL.snoc {W : World} {B n : Nat} {v : Value} {L : List Pr} {l : ByteArray} {f t : Int} (hn : n = L.length) (h : W.ownsRow B 34 3 v (n + 1) (pcells L ++ [.string l, .int .i64 f, .int .i64 t])) : PgL W B v (L ++ [⟨l, f, t⟩]) := by
  unfold PgL
  rw [List.length_append, pcells_snoc]
  exact hn ▸ h
/-- a drawn list of ranges -/
def SomePs (w : World) (g : Nat) (A : Option Addr) (n c k : Nat) (e : Ending) (w' : World) : Prop :=
  ∃ (Ap : Option Addr) (N cp : Nat) (L : List Pr), e = .returned (.slice Ap N cp) ∧ L.length = N ∧ N ≤ 9 ∧ RdP w' Ap L ∧ LeftC w g A n c k 200 w'
set_option maxRecDepth 100000 in
set_option maxHeartbeats 8000000 in
theorem pages_any (g : Nat) (A : Option Addr) (n c k : Nat) (s : Int) (w : World) (hk : k ≤ 1030000) (hn : n ≤ 1048576) (hcur : IsCur w g A n c k s) (hr : RdB w A n) (ha : Apart A n g) :
    Calls Tryd.prog 22 #[.pointer (some ⟨g, 0, none⟩)] w (SomePs w g A n c k) := by
  obtain ⟨i0, hi, hz0, hz1, hz2⟩ := info_parts infoPr
  have hgl : g < w.heap.size := hcur.lt
  have HA := Lib.hid ha
  have HS0 := Lib.hid ((St.start hcur hr ha).alloc (.cells #[] 34))
  have HG0 : Hid (PgL (w.alloc (.cells #[] 34)) w.heap.size (.slice (some ⟨w.heap.size, 0, none⟩) 0 0) []) := Lib.hid (World.ownsRow_lit (base := w.heap.size) (e := 34) (size := 3) w #[] 0 (Nat.le_refl _) (Nat.zero_le _) rfl)
  clear hcur hr ha
  go_enter Tryd.func22, Tryd.ntmps22
  go_upto_region 2 with fail
  generalize w.alloc _ = w0 at HS0 HG0 ⊢
  obtain ⟨k1, s1, hk1, hc1⟩ := HS0.out.cur
  have HC1 := Lib.hid hc1
  clear hc1
  go_wp2_with fail
  refine (pick_any 4 (by omega) (by omega) g A n c k1 s1 _ (by omega) hn HC1.out HS0.out.rd HA.out).mono ?_
  rintro e w1 ⟨r, rfl, hr0, hr1, hl⟩
  have HS1 := Lib.hid (HS0.out.call hk1 hl)
  have HG1 := Lib.hid (HG0.out.kept hl.2 hgl)
  obtain ⟨i, rfl⟩ := Int.eq_ofNat_of_zero_le hr0
  have hi3 : i ≤ 3 := by omega
  obtain ⟨j, hj⟩ : ∃ j, j = i + 1 := ⟨_, rfl⟩
  have hw0 : IntKind.i64.wrap (1 + (i : Int)) = (j : Int) := by rw [IntWalk.i64_in _ (by omega)]; omega
  clear hl HC1 HS0 HG0 hr0 hr1
  go_wp2_with fail
  go_loopw [3, 4] (fun v vi wr => ∃ (i km : Nat) (L : List Pr) (Av : Option Addr) (cv nL : Nat), i ≤ 4 ∧ vi = .int .i64 i ∧ v = .slice Av nL cv ∧ Hid (nL = L.length) ∧ nL + i ≤ 4 ∧ km + 12 * i ≤ 60 ∧ Hid (St w g A n c k km wr) ∧ Hid (PgL wr w.heap.size (.slice Av nL cv) L)) (fun _ vi _ => (intOf vi).toNat)
  case atStart => exact ⟨j, _, [], _, _, 0, by omega, by (first | rfl | (congr 1; omega)), rfl, Lib.hid rfl, by omega, by omega, HS1, HG1⟩
  case round =>
    clear HS1 HG1 hw0 hj hi3
    obtain ⟨i, km, L, Av, cv, nL, hi4, rfl, rfl, HnL, hLi, hkm, HS, HG⟩ := hrel
    by_cases h0 : 0 < i
    · have hi0 : (0 : Int) < (i : Int) := by omega
      obtain ⟨k5, s5, hk5, hc5⟩ := HS.out.cur
      have HC5 := Lib.hid hc5
      clear hc5
      have hi' : nL ≤ 3 := by omega
      go_wp2_with fail
      refine (pageRange_any g A n c k5 s5 _ (by omega) hn HC5.out HS.out.rd HA.out).mono ?_
      rintro e w5 ⟨l, f, t, rfl, hl⟩
      have HS5 := Lib.hid (HS.out.call hk5 hl)
      have HG5 := Lib.hid (HG.out.kept hl.2 hgl)
      have HO5 := Lib.hid (HG5.out.row HnL.out)
      have hle := HS5.out.le
      clear hl HS HG HC5
      go_wp2_with (first
        | (at_builtin; refine wpList_append_own _ rfl _ _ 24 rfl w.heap.size 34 i0 _ 3 32 Tryd.underlying24 hi hz0 hz1 hz2 rfl (by decide) (.slice Av nL cv) nL (pcells L) rfl (HO5.out.alloc _) ⟨w5.heap.size, 0, none⟩ 1 1 [.string l, .int .i64 f, .int .i64 t] rfl rfl (three_new _ _ _ _ _) (by simp [Value.oneCell']) (by unfold maxLen; omega) (by omega) (by simp; omega) ?_; intro v' w9 hown' hgrow hne; obtain ⟨A9, c9, rfl⟩ := form3 hown'; have HS9 := Lib.hid ((HS5.out.alloc (.cells #[.string l, .int .i64 f, .int .i64 t] 34)).grow hgrow (fun j hj => (HO5.out.lt j hj).1)); have HG9 := Lib.hid (PgL.snoc HnL.out hown')) | fail)
      have hw1 : IntKind.i64.wrap ((i : Int) - 1) = ((i - 1 : Nat) : Int) := by rw [show (i : Int) - 1 = ((i - 1 : Nat) : Int) by omega]; exact IntWalk.i64_in _ (by omega)
      clear HG5 HO5 HS5 hown' hgrow hne
      go_wp2_with fail
      go_roundw
      case rel => exact ⟨i - 1, _, L ++ [⟨l, f, t⟩], A9, c9, nL + 1, by omega, by (first | rfl | (congr 1; omega)), rfl, Lib.hid (by rw [List.length_append, ← HnL.out]; rfl), by omega, by omega, HS9, HG9⟩
      case measure => simp [intOf]; omega
    · obtain rfl : i = 0 := by omega
      obtain ⟨k5, s5, hk5, hc5⟩ := HS.out.cur
      have HC5 := Lib.hid hc5
      clear hc5
      go_wp2_with fail
      refine (pick_any 50 (by omega) (by omega) g A n c k5 s5 _ (by omega) hn HC5.out HS.out.rd HA.out).mono ?_
      rintro e w2 ⟨r, rfl, hr0, hr1, hl⟩
      have HS2 := Lib.hid (HS.out.call hk5 hl)
      have HG2 := Lib.hid (HG.out.kept hl.2 hgl)
      clear hl HC5 HS HG
      rcases (show r = 0 ∨ r = 1 ∨ (r ≠ 0 ∧ r ≠ 1) by omega) with h | h | ⟨h, h'⟩
      · subst h
        go_wp2_with fail
        go_ret
        exact ⟨Av, 0, cv, [], rfl, rfl, by omega, fun j x hx => by simp at hx, (HS2.out.mono (by omega)).left⟩
      · subst h
        go_wp2_with fail
        go_loopw [3] (fun v wr => ∃ (km nL : Nat) (L : List Pr) (Av : Option Addr) (cv : Nat), v = .slice Av nL cv ∧ Hid (nL = L.length) ∧ nL ≤ 9 ∧ km + 2 * (9 - nL) ≤ 150 ∧ Hid (St w g A n c k km wr) ∧ Hid (PgL wr w.heap.size (.slice Av nL cv) L)) (fun v _ => match v with | .slice _ q _ => 10 - q | _ => 0)
        case atStart => exact ⟨_, nL, L, Av, cv, rfl, HnL, by omega, by omega, HS2, HG2⟩
        case round =>
          clear HS2 HG2 HnL
          obtain ⟨km, nL, L, Av, cv, rfl, HnL, hL9, hkm, HS, HG⟩ := hrel
          obtain ⟨k6, s6, hk6, hc6⟩ := HS.out.cur
          have HC6 := Lib.hid hc6
          clear hc6
          go_wp2_with fail
          refine (pick_any 2 (by omega) (by omega) g A n c k6 s6 _ (by omega) hn HC6.out HS.out.rd HA.out).mono ?_
          rintro e wq ⟨r2, rfl, hq0, hq1, hl⟩
          have HSq := Lib.hid (HS.out.call hk6 hl)
          have HGq := Lib.hid (HG.out.kept hl.2 hgl)
          have HO5 := Lib.hid (HGq.out.row HnL.out)
          have hle := HSq.out.le
          clear hl HC6 HS HG
          obtain ⟨m, rfl⟩ := Int.eq_ofNat_of_zero_le hq0
          have hm1 : m ≤ 1 := by omega
          have hw4 : IntKind.i64.wrap (8 + (m : Int)) = ((8 + m : Nat) : Int) := by rw [IntWalk.i64_in _ (by omega)]; omega
          clear hq0 hq1
          by_cases hlt : nL < 8 + m
          · have hlt' : (nL : Int) < ((8 + m : Nat) : Int) := by omega
            obtain ⟨f, hf⟩ : ∃ f, IntKind.i64.wrap (10 * (nL : Int)) = f := ⟨_, rfl⟩
            obtain ⟨t, ht⟩ : ∃ t, IntKind.i64.wrap (f + 3) = t := ⟨_, rfl⟩
            go_wp2_with (first
              | (at_builtin; refine wpList_append_own _ rfl _ _ 24 rfl w.heap.size 34 i0 _ 3 32 Tryd.underlying24 hi hz0 hz1 hz2 rfl (by decide) (.slice Av nL cv) nL (pcells L) rfl (HO5.out.alloc _) ⟨wq.heap.size, 0, none⟩ 1 1 [.string ⟨#[]⟩, .int .i64 f, .int .i64 t] rfl rfl (three_new _ _ _ _ _) (by simp [Value.oneCell']) (by unfold maxLen; omega) (by omega) (by simp; omega) ?_; intro v' w9 hown' hgrow hne; obtain ⟨A9, c9, rfl⟩ := form3 hown'; have HS9 := Lib.hid ((HSq.out.alloc (.cells #[.string ⟨#[]⟩, .int .i64 f, .int .i64 t] 34)).grow hgrow (fun j hj => (HO5.out.lt j hj).1)); have HG9 := Lib.hid (PgL.snoc HnL.out hown')) | fail)
            clear HGq HO5 HSq hown' hgrow hne
            go_wp2_with fail
            go_roundw
            case rel => exact ⟨_, nL + 1, L ++ [⟨⟨#[]⟩, f, t⟩], A9, c9, rfl, Lib.hid (by rw [List.length_append, ← HnL.out]; rfl), by omega, by omega, HS9, HG9⟩
            case measure => show 10 - (nL + 1) < 10 - nL; omega
          · have hlt' : ¬ (nL : Int) < ((8 + m : Nat) : Int) := by omega
            go_wp2_with fail
            go_ret
            exact ⟨Av, nL, cv, L, rfl, HnL.out.symm, by omega, own_rd HO5.out, (HSq.out.mono (by omega)).left⟩
      · have e0 : (r == 0) = false := by simpa using h
        have e1 : (r == 1) = false := by simpa using h'
        have HO5 := Lib.hid (HG2.out.row HnL.out)
        go_wp2_with fail
        go_ret
        exact ⟨Av, nL, cv, L, rfl, HnL.out.symm, by omega, own_rd HO5.out, (HS2.out.mono (by omega)).left⟩
end Go.Proofs.YtocgpoafhocbbaaDoor.PgDr
