/-
  Several texts of one claim in one file: SpDs, SpDq.
-/
import Derived.Test.YtljbbmefemfjpaaStC
import Derived.Test.YtljbbmefemfjpaaCur
import Derived.Test.YtljbbmefemfjpaaSpB
import Derived.Test.YtljbbmefemfjpaaQtDr
/-
  Drawing functions of chapters 10 and 12: spans.
-/
namespace Go.Proofs.Ytljbbmefemfjpaa.SpDs
open Go.RowKit Pl Cur Draw0 StN SpPl Sp SpA SpB
set_option linter.unusedVariables false
set_option linter.unusedSimpArgs false

theorem three_new (w : World) (a b c : Value) (t : TypeId) : ∀ (j : Nat) (u : Value), ([a, b, c] : List Value)[j]? = some u → (w.alloc (.cells #[a, b, c] t)).cell? ((⟨w.heap.size, 0, none⟩ : Addr).add j) = some u := by
  intro j u hj
  match j, hj with
  | 0, hj => simp at hj; subst hj; simp [Addr.add]
  | 1, hj => simp at hj; subst hj; simp [Addr.add]
  | 2, hj => simp at hj; subst hj; simp [Addr.add]
  | j + 3, hj => simp at hj
theorem form3 {w : World} {b n : Nat} {e : TypeId} {size : Nat} {v : Value} {xs : List Value} (h : w.ownsRow b e size v n xs) : ∃ A c, v = .slice A n c := by
  rcases h.2 with ⟨rfl, rfl⟩ | ⟨g, cap, cur, rfl, _⟩
  · exact ⟨none, 0, rfl⟩
  · exact ⟨_, _, rfl⟩
/-- a row of spans of its own -/
def SpL (W : World) (B : Nat) (v : Value) (L : List Sp1) : Prop := W.ownsRow B 70 3 v L.length (pcells L)
theorem SpL.kept {W W' : World} {B g : Nat} {v : Value} {L : List Sp1} (h : SpL W B v L) (hg : W.grownBy W' (some g)) (hr : g < B) : SpL W' B v L := by
  refine World.ownsRow.kept h hg ?_
  cases hb : v.ownBlock with
  | none => exact .inl rfl
  | some j =>
    refine .inr fun e => ?_
    have h1 := (World.ownsRow.lt h j hb).1
    cases e
    omega
theorem SpL.row {W : World} {B n : Nat} {v : Value} {L : List Sp1} (h : SpL W B v L) (hn : n = L.length) : W.ownsRow B 70 3 v n (pcells L) := hn ▸ h
theorem SpL.snoc {W : World} {B n : Nat} {v : Value} {L : List Sp1} {l : ByteArray} {f t : Bool} (hn : n = L.length) (h : W.ownsRow B 70 3 v (n + 1) (pcells L ++ [.string l, .bool f, .bool t])) : SpL W B v (L ++ [⟨l, f, t⟩]) := by
  unfold SpL
  rw [List.length_append, pcells_snoc]
  exact hn ▸ h
theorem sz_snoc {L : List Sp1} {l : ByteArray} {f t : Bool} {nL : Nat} (h : szL L ≤ 6 * nL) (hl : l.size ≤ 6) : szL (L ++ [⟨l, f, t⟩]) ≤ 6 * (nL + 1) := by
  rw [szL_app, szL_one]
  show szL L + l.size ≤ _
  omega
theorem nn9 {w : World} {base : Nat} {e : TypeId} {size n m c : Nat} {A : Option Addr} {xs : List Value} (h : w.ownsRow base e size (.slice A (m + 1) c) n xs) : A ≠ none := by
  rcases h.2 with ⟨h0, _⟩ | ⟨g, cap, cur, h0, _⟩
  · cases h0
  · cases h0; simp
/-- a drawn list of spans, in memory of its own -/
def SomeSps (m : Nat) (w : World) (g : Nat) (A : Option Addr) (n c k mk : Nat) (e : Ending) (w' : World) : Prop :=
  ∃ (Ap : Option Addr) (N cp : Nat) (L : List Sp1), e = .returned (.slice Ap N cp) ∧ L.length = N ∧ N ≤ 81 ∧ Hid (Ap ≠ none) ∧ szL L ≤ m * N ∧ Hid (SpL w' w.heap.size (.slice Ap N cp) L) ∧ LeftC w g A n c k mk w'
def spTexts : List ByteArray := [⟨#[79, 110]⟩, ⟨#[32]⟩, ⟨#[114, 105, 118, 101, 114, 115]⟩, ⟨#[]⟩, ⟨#[97, 95, 98]⟩, ⟨#[50, 42, 51]⟩, ⟨#[92]⟩, ⟨#[120, 32, 121]⟩]
set_option maxRecDepth 100000 in
set_option maxHeartbeats 8000000 in
theorem spans_any (g : Nat) (A : Option Addr) (n c k : Nat) (s : Int) (w : World) (hk : k ≤ 1030000) (hn : n ≤ 1048576) (hcur : IsCur w g A n c k s) (hr : RdB w A n) (ha : Apart A n g) :
    Calls Try.prog 58 #[.pointer (some ⟨g, 0, none⟩)] w (SomeSps 6 w g A n c k 240) := by
  obtain ⟨i0, hi, hz0, hz1, hz2⟩ := info_parts infoSp
  have hgl : g < w.heap.size := hcur.lt
  have HA := Lib.hid ha
  have HS0 := Lib.hid ((St.start hcur hr ha).alloc (.cells #[] 70))
  have HG0 : Hid (SpL (w.alloc (.cells #[] 70)) w.heap.size (.slice (some ⟨w.heap.size, 0, none⟩) 0 0) []) := Lib.hid (World.ownsRow_lit (base := w.heap.size) (e := 70) (size := 3) w #[] 0 (Nat.le_refl _) (Nat.zero_le _) rfl)
  clear hcur hr ha
  go_enter Try.func58, Try.ntmps58
  go_upto_region 2 with fail
  generalize w.alloc _ = w0 at HS0 HG0 ⊢
  obtain ⟨k1, s1, hk1, hc1⟩ := HS0.out.cur
  have HC1 := Lib.hid hc1
  clear hc1
  go_wp2_with fail
  refine (pick_any 7 (by omega) (by omega) g A n c k1 s1 _ (by omega) hn HC1.out HS0.out.rd HA.out).mono ?_
  rintro e w1 ⟨r, rfl, hr0, hr1, hl⟩
  have HS1 := Lib.hid (HS0.out.call hk1 hl)
  have HG1 := Lib.hid (HG0.out.kept hl.2 hgl)
  obtain ⟨j, rfl⟩ := Int.eq_ofNat_of_zero_le hr0
  have hj6 : j ≤ 6 := by omega
  clear hl HC1 HS0 HG0 hr0 hr1
  go_wp2_with fail
  go_loopw [3, 4] (fun v vi wr => ∃ (i km : Nat) (L : List Sp1) (Av : Option Addr) (cv nL : Nat), i ≤ 6 ∧ vi = .int .i64 i ∧ v = .slice Av nL cv ∧ Hid (nL = L.length) ∧ Hid (szL L ≤ 6 * nL) ∧ Hid (Av ≠ none) ∧ nL + i ≤ 6 ∧ km + 6 * i ≤ 40 ∧ Hid (St w g A n c k km wr) ∧ Hid (SpL wr w.heap.size (.slice Av nL cv) L)) (fun _ vi _ => (intOf vi).toNat)
  case atStart => exact ⟨j, _, [], _, _, 0, by omega, rfl, rfl, Lib.hid rfl, Lib.hid (Nat.le_refl _), Lib.hid (by simp), by omega, by omega, HS1, HG1⟩
  case round =>
    clear HS1 HG1 hj6
    obtain ⟨i, km, L, Av, cv, nL, hi4, rfl, rfl, HnL, HsL, HnA, hLi, hkm, HS, HG⟩ := hrel
    by_cases h0 : 0 < i
    · have hi0 : (0 : Int) < (i : Int) := by omega
      obtain ⟨k5, s5, hk5, hc5⟩ := HS.out.cur
      have HC5 := Lib.hid hc5
      clear hc5
      have hi' : nL ≤ 5 := by omega
      go_wp2_with fail
      refine (of_any (fun x => x.size ≤ 6) _ _ 8 spTexts (by decide) rfl (by omega) (by omega) g (Nat.ne_of_gt HC5.out.lt) A n c k5 s5 _ (by omega) hn (HC5.out.alloc _) (HS.out.rd.alloc HA.out HC5.out.lt _) HA.out (Txt.lit (xs := spTexts) rfl)).mono ?_
      rintro e w5 ⟨l, hl6, rfl, hl⟩
      have HS5 := Lib.hid (HS.out.call hk5 hl.alloc)
      have HG5 := Lib.hid (HG.out.kept hl.alloc.2 hgl)
      have HL6 := Lib.hid hl6
      clear hl hl6 HS HG HC5
      obtain ⟨k6, s6, hk6, hc6⟩ := HS5.out.cur
      have HC6 := Lib.hid hc6
      clear hc6
      go_wp2_with fail
      refine (one_any 3 (by omega) (by omega) g A n c k6 s6 _ (by omega) hn HC6.out HS5.out.rd HA.out).mono ?_
      rintro e w6 ⟨f, rfl, hl⟩
      have HS6 := Lib.hid (HS5.out.call hk6 hl)
      have HG6 := Lib.hid (HG5.out.kept hl.2 hgl)
      clear hl HS5 HG5 HC6
      obtain ⟨k7, s7, hk7, hc7⟩ := HS6.out.cur
      have HC7 := Lib.hid hc7
      clear hc7
      go_wp2_with fail
      refine (one_any 3 (by omega) (by omega) g A n c k7 s7 _ (by omega) hn HC7.out HS6.out.rd HA.out).mono ?_
      rintro e w7 ⟨t, rfl, hl⟩
      have HS7 := Lib.hid (HS6.out.call hk7 hl)
      have HG7 := Lib.hid (HG6.out.kept hl.2 hgl)
      have HO7 := Lib.hid (HG7.out.row HnL.out)
      have hle := HS7.out.le
      clear hl HS6 HG6 HC7
      go_wp2_with (first
        | (at_builtin; refine wpList_append_own _ rfl _ _ 36 rfl w.heap.size 70 i0 _ 3 24 Try.underlying36 hi hz0 hz1 hz2 rfl (by decide) (.slice Av nL cv) nL (pcells L) rfl (HO7.out.alloc _) ⟨w7.heap.size, 0, none⟩ 1 1 [.string l, .bool f, .bool t] rfl rfl (three_new _ _ _ _ _) (by simp [Value.oneCell']) (by unfold maxLen; omega) (by omega) (by simp; omega) ?_; intro v' w9 hown' hgrow hne; obtain ⟨A9, c9, rfl⟩ := form3 hown'; have HS9 := Lib.hid ((HS7.out.alloc (.cells #[.string l, .bool f, .bool t] 70)).grow hgrow (fun j hj => (HO7.out.lt j hj).1)); have HN9 := Lib.hid (nn9 hown'); have HG9 := Lib.hid (SpL.snoc HnL.out hown'))
        | fail)
      have hw1 : IntKind.i64.wrap ((i : Int) - 1) = ((i - 1 : Nat) : Int) := by rw [show (i : Int) - 1 = ((i - 1 : Nat) : Int) by omega]; exact IntWalk.i64_in _ (by omega)
      clear HG7 HO7 HS7 hown' hgrow hne
      go_wp2_with fail
      go_roundw
      case rel => exact ⟨i - 1, _, L ++ [⟨l, f, t⟩], A9, c9, nL + 1, by omega, by (first | rfl | (congr 1; omega)), rfl, Lib.hid (by rw [List.length_append, ← HnL.out]; rfl), Lib.hid (sz_snoc HsL.out HL6.out), HN9, by omega, by omega, HS9, HG9⟩
      case measure => simp [intOf]; omega
    · obtain rfl : i = 0 := by omega
      obtain ⟨k5, s5, hk5, hc5⟩ := HS.out.cur
      have HC5 := Lib.hid hc5
      clear hc5
      go_wp2_with fail
      refine (pick_any 24 (by omega) (by omega) g A n c k5 s5 _ (by omega) hn HC5.out HS.out.rd HA.out).mono ?_
      rintro e w2 ⟨r, rfl, hr0, hr1, hl⟩
      have HS2 := Lib.hid (HS.out.call hk5 hl)
      have HG2 := Lib.hid (HG.out.kept hl.2 hgl)
      have HO2 := Lib.hid (HG2.out.row HnL.out)
      have hle2 := HS2.out.le
      clear hl HC5 HS HG
      rcases (show r = 0 ∨ r = 1 ∨ (r ≠ 0 ∧ r ≠ 1) by omega) with h | h | ⟨h, h'⟩
      · subst h
        go_wp2_with (first
          | (at_builtin; refine wpList_append_own _ rfl _ _ 36 rfl w.heap.size 70 i0 _ 3 24 Try.underlying36 hi hz0 hz1 hz2 rfl (by decide) (.slice Av nL cv) nL (pcells L) rfl (HO2.out.alloc _) ⟨w2.heap.size, 0, none⟩ 1 1 [.string ⟨#[97, 10]⟩, .bool false, .bool false] rfl rfl (three_new _ _ _ _ _) (by simp [Value.oneCell']) (by unfold maxLen; omega) (by omega) (by simp; omega) ?_; intro v' w9 hown' hgrow hne; obtain ⟨A9, c9, rfl⟩ := form3 hown'; have HS9 := Lib.hid ((HS2.out.alloc (.cells #[.string ⟨#[97, 10]⟩, .bool false, .bool false] 70)).grow hgrow (fun j hj => (HO2.out.lt j hj).1)); have HN9 := Lib.hid (nn9 hown'); have HG9 := Lib.hid (SpL.snoc HnL.out hown'))
          | fail)
        clear HG2 HO2 HS2 hown' hgrow hne
        go_wp2_with fail
        go_ret
        exact ⟨A9, nL + 1, c9, L ++ [⟨⟨#[97, 10]⟩, false, false⟩], rfl, by rw [List.length_append, ← HnL.out]; rfl, by omega, HN9, sz_snoc HsL.out (by decide), HG9, (HS9.out.mono (by omega)).left⟩
      · subst h
        clear HO2
        go_wp2_with fail
        go_loopw [3] (fun v wr => ∃ (km nL : Nat) (L : List Sp1) (Av : Option Addr) (cv : Nat), v = .slice Av nL cv ∧ Hid (nL = L.length) ∧ Hid (szL L ≤ 6 * nL) ∧ Hid (Av ≠ none) ∧ nL ≤ 81 ∧ km + 2 * (81 - nL) ≤ 220 ∧ Hid (St w g A n c k km wr) ∧ Hid (SpL wr w.heap.size (.slice Av nL cv) L)) (fun v _ => match v with | .slice _ q _ => 82 - q | _ => 0)
        case atStart => exact ⟨_, nL, L, Av, cv, rfl, HnL, HsL, HnA, by omega, by omega, HS2, HG2⟩
        case round =>
          clear HS2 HG2 HnL HsL HnA
          obtain ⟨km, nL, L, Av, cv, rfl, HnL, HsL, HnA, hL9, hkm, HS, HG⟩ := hrel
          obtain ⟨k6, s6, hk6, hc6⟩ := HS.out.cur
          have HC6 := Lib.hid hc6
          clear hc6
          go_wp2_with fail
          refine (pick_any 2 (by omega) (by omega) g A n c k6 s6 _ (by omega) hn HC6.out HS.out.rd HA.out).mono ?_
          rintro e wq ⟨r2, rfl, hq0, hq1, hl⟩
          have HSq := Lib.hid (HS.out.call hk6 hl)
          have HGq := Lib.hid (HG.out.kept hl.2 hgl)
          have HOq := Lib.hid (HGq.out.row HnL.out)
          have hle := HSq.out.le
          clear hl HC6 HS HG
          obtain ⟨m, rfl⟩ := Int.eq_ofNat_of_zero_le hq0
          have hm1 : m ≤ 1 := by omega
          have hw4 : IntKind.i64.wrap (80 + (m : Int)) = ((80 + m : Nat) : Int) := by rw [IntWalk.i64_in _ (by omega)]; omega
          clear hq0 hq1
          by_cases hlt : nL < 80 + m
          · have hlt' : (nL : Int) < ((80 + m : Nat) : Int) := by omega
            obtain ⟨z, hz⟩ : ∃ z : Bool, (((nL : Int) % 2) == 0) = z := ⟨_, rfl⟩
            go_wp2_with (first
              | (at_builtin; refine wpList_append_own _ rfl _ _ 36 rfl w.heap.size 70 i0 _ 3 24 Try.underlying36 hi hz0 hz1 hz2 rfl (by decide) (.slice Av nL cv) nL (pcells L) rfl (HOq.out.alloc _) ⟨wq.heap.size, 0, none⟩ 1 1 [.string ⟨#[97]⟩, .bool z, .bool false] rfl rfl (three_new _ _ _ _ _) (by simp [Value.oneCell']) (by unfold maxLen; omega) (by omega) (by simp; omega) ?_; intro v' w9 hown' hgrow hne; obtain ⟨A9, c9, rfl⟩ := form3 hown'; have HS9 := Lib.hid ((HSq.out.alloc (.cells #[.string ⟨#[97]⟩, .bool z, .bool false] 70)).grow hgrow (fun j hj => (HOq.out.lt j hj).1)); have HN9 := Lib.hid (nn9 hown'); have HG9 := Lib.hid (SpL.snoc HnL.out hown'))
              | fail)
            clear HGq HOq HSq hown' hgrow hne
            go_wp2_with fail
            go_roundw
            case rel => exact ⟨_, nL + 1, L ++ [⟨⟨#[97]⟩, z, false⟩], A9, c9, rfl, Lib.hid (by rw [List.length_append, ← HnL.out]; rfl), Lib.hid (sz_snoc HsL.out (by decide)), HN9, by omega, by omega, HS9, HG9⟩
            case measure => show 82 - (nL + 1) < 82 - nL; omega
          · have hlt' : ¬ (nL : Int) < ((80 + m : Nat) : Int) := by omega
            go_wp2_with fail
            go_ret
            exact ⟨Av, nL, cv, L, rfl, HnL.out.symm, by omega, HnA, HsL.out, HGq, (HSq.out.mono (by omega)).left⟩
      · have e0 : (r == 0) = false := by simpa using h
        have e1 : (r == 1) = false := by simpa using h'
        go_wp2_with fail
        go_ret
        exact ⟨Av, nL, cv, L, rfl, HnL.out.symm, by omega, HnA, HsL.out, HG2, (HS2.out.mono (by omega)).left⟩
end Go.Proofs.Ytljbbmefemfjpaa.SpDs
/-
  Drawing functions of chapter 12: quotedSpans, DrawQuoteSpans.
-/
namespace Go.Proofs.Ytljbbmefemfjpaa.SpDs
open Go.RowKit Pl Cur Draw0 StN SpPl Sp SpA SpB
open QtDr (quoted_any)
set_option linter.unusedVariables false
set_option linter.unusedSimpArgs false

/-- block b holds a span and may be written -/
def R3 (W : World) (b : Nat) (l : ByteArray) (f t : Bool) : Prop := (b < W.heap.size ∧ W.cell? ⟨b, 0, none⟩ = some (.string l) ∧ W.cell? ⟨b, 1, none⟩ = some (.bool f) ∧ W.cell? ⟨b, 2, none⟩ = some (.bool t)) ∧ W.frozen? ⟨b, 0, none⟩ = false ∧ W.frozen? ⟨b, 1, none⟩ = false ∧ W.frozen? ⟨b, 2, none⟩ = false
theorem R3.new (w : World) (l : ByteArray) (f t : Bool) (ty : TypeId) : R3 (w.alloc (.cells #[.string l, .bool f, .bool t] ty)) w.heap.size l f t :=
  ⟨⟨by simp, by simp, by simp, by simp⟩, by simp, by simp, by simp⟩
theorem R3.grown {w w' : World} {r : Option Nat} {b : Nat} {l : ByteArray} {f t : Bool} (h : w.grownBy w' r) (hne : some b ≠ r) (hd : R3 w b l f t) : R3 w' b l f t := by
  have hblk := h.block b hd.1.1 hne
  obtain ⟨⟨hl, h0, h1, h2⟩, f0, f1, f2⟩ := hd
  refine ⟨⟨Nat.lt_of_lt_of_le hl h.size, ?_, ?_, ?_⟩, ?_, ?_, ?_⟩
  all_goals (first | (simp only [World.cell?, hblk] at *; assumption) | (simp only [World.frozen?, hblk] at *; assumption))
theorem c_ne {W : World} {b i j : Nat} {v : Value} (h : i ≠ j) : (W.setCell ⟨b, i, none⟩ v).cell? ⟨b, j, none⟩ = W.cell? ⟨b, j, none⟩ := World.cell?_setCell_other W _ _ _ (fun e => h (by cases e; rfl))
theorem R3.set0 {W : World} {b : Nat} {l : ByteArray} {f t : Bool} (h : R3 W b l f t) (u : ByteArray) : R3 (W.setCell ⟨b, 0, none⟩ (.string u)) b u f t := by
  obtain ⟨⟨hl, h0, h1, h2⟩, f0, f1, f2⟩ := h
  exact ⟨⟨by simpa [World.setCell] using hl, World.cell?_setCell_same _ _ _ h0, by rw [c_ne (by decide)]; exact h1, by rw [c_ne (by decide)]; exact h2⟩, by rw [World.frozen?_setCell]; exact f0, by rw [World.frozen?_setCell]; exact f1, by rw [World.frozen?_setCell]; exact f2⟩
theorem SpL.cells {W : World} {B : Nat} {Av : Option Addr} {nL cv : Nat} {L : List Sp1} (h : SpL W B (.slice Av nL cv) L) {j : Nat} {x : Sp1} (hx : L[j]? = some x) :
    ∃ g, Av = some ⟨g, 0, none⟩ ∧ B ≤ g ∧ g < W.heap.size ∧ W.cell? ⟨g, j * 3, none⟩ = some (.string x.l) ∧ W.cell? ⟨g, j * 3 + 1, none⟩ = some (.bool x.f) ∧ W.cell? ⟨g, j * 3 + 2, none⟩ = some (.bool x.t) := by
  have hj := (List.getElem?_eq_some_iff.1 hx).1
  obtain ⟨c0, c1, c2⟩ := pcells_at hx
  have ho : W.ownsRow B 70 3 (.slice Av nL cv) L.length (pcells L) := h
  rcases ho.2 with ⟨h0, h1⟩ | ⟨g, cap, cur, h0, h1, h2, _⟩
  · omega
  · cases h0
    refine ⟨g, rfl, h1, (Array.getElem?_eq_some_iff.1 h2).1, ?_, ?_, ?_⟩
    all_goals
      rw [World.ownsRow.cellAt ho _ (by omega)]
      assumption
def set3 (W : World) (g i : Nat) (y : Sp1) : World := ((W.setCell ⟨g, i * 3, none⟩ (.string y.l)).setCell ⟨g, i * 3 + 1, none⟩ (.bool y.f)).setCell ⟨g, i * 3 + 2, none⟩ (.bool y.t)
theorem set3_own {W : World} {B g nL cv i : Nat} {L : List Sp1} (y : Sp1) (hn : L.length = nL) (hi : i < L.length) (h : SpL W B (.slice (some ⟨g, 0, none⟩) nL cv) L) :
    SpL (set3 W g i y) B (.slice (some ⟨g, 0, none⟩) nL cv) (L.set i y) := by
  have ho : W.ownsRow B 70 3 (.slice (some ⟨g, 0, none⟩) nL cv) nL (pcells L) := by have h' := h; unfold SpL at h'; rw [hn] at h'; exact h'
  have h1 := ho.stored (i * 3) (.string y.l)
  have h2 := h1.1.stored (i * 3 + 1) (.bool y.f)
  have h3 := h2.1.stored (i * 3 + 2) (.bool y.t)
  unfold SpL
  rw [List.length_set, hn, ← pcells_set y hi]
  exact h3.1
theorem szL_set {L : List Sp1} {i : Nat} {x y : Sp1} (h : L[i]? = some x) : szL (L.set i y) + x.l.size = szL L + y.l.size := by
  induction L generalizing i with
  | nil => simp at h
  | cons z r ih =>
    have e : szL (z :: r) = z.l.size + szL r := by simp only [szL, List.map_cons, List.sum_cons]
    cases i with
    | zero =>
      simp at h
      subst h
      rw [List.set_cons_zero, e]
      have e2 : szL (y :: r) = y.l.size + szL r := by simp only [szL, List.map_cons, List.sum_cons]
      omega
    | succ i =>
      have h' : r[i]? = some x := by simpa using h
      rw [List.set_cons_succ, e]
      have e2 : szL (z :: r.set i y) = z.l.size + szL (r.set i y) := by simp only [szL, List.map_cons, List.sum_cons]
      have := ih h'
      omega
set_option maxRecDepth 100000 in
set_option maxHeartbeats 8000000 in
theorem quotedSpans_any (g : Nat) (A : Option Addr) (n c k : Nat) (s : Int) (w : World) (hk : k ≤ 900000) (hn : n ≤ 1048576) (hcur : IsCur w g A n c k s) (hr : RdB w A n) (ha : Apart A n g) :
    Calls Try.prog 39 #[.pointer (some ⟨g, 0, none⟩)] w (SomeSps 207 w g A n c k 50000) := by
  have hgl : g < w.heap.size := hcur.lt
  have HA := Lib.hid ha
  have HS0 := Lib.hid (St.start hcur hr ha)
  have HSp := Lib.hid (spans_any g A n c k s w (by omega) hn hcur hr ha)
  clear hcur hr ha
  go_enter Try.func39, Try.ntmps39
  go_wp2_with fail
  refine HSp.out.mono ?_
  rintro e w1 ⟨Av, N, cv, L0, rfl, hL0, hN, HnA, hs0, HG1, hl⟩
  have HS1 := Lib.hid (HS0.out.call (Nat.le_refl _) hl)
  clear hl HSp HS0
  go_wp2_with fail
  go_loopw [4] (fun vi wr => ∃ (i km : Nat) (L : List Sp1), i ≤ N ∧ vi = .int .i64 i ∧ Hid (L.length = N) ∧ Hid (szL L ≤ 6 * N + 201 * i) ∧ km ≤ 300 + 490 * i ∧ Hid (St w g A n c k km wr) ∧ Hid (SpL wr w.heap.size (.slice Av N cv) L)) (fun vi _ => N - (intOf vi).toNat)
  case atStart => exact ⟨0, _, L0, Nat.zero_le _, rfl, Lib.hid hL0, Lib.hid (by omega), by omega, HS1, HG1⟩
  case round =>
    clear HS1 HG1 hL0 hs0
    obtain ⟨i, km, L, hi, rfl, HnL, HsL, hkm, HS, HG⟩ := hrel
    by_cases hlt : i < N
    · obtain ⟨k5, s5, hk5, hc5⟩ := HS.out.cur
      have HC5 := Lib.hid hc5
      clear hc5
      have hw1 : IntKind.i64.wrap ((i : Int) + 1) = ((i + 1 : Nat) : Int) := by rw [IntWalk.i64_in _ (by omega)]; rfl
      go_wp2_with fail
      refine (one_any 3 (by omega) (by omega) g A n c k5 s5 _ (by omega) hn HC5.out HS.out.rd HA.out).mono ?_
      rintro e w5 ⟨b, rfl, hl⟩
      have HS5 := Lib.hid (HS.out.call hk5 hl)
      have HG5 := Lib.hid (HG.out.kept hl.2 hgl)
      clear hl HS HG HC5
      cases b with
      | false =>
        go_wp2_with fail
        go_roundw
        case rel => exact ⟨i + 1, _, L, by omega, by first | rfl | go_num, HnL, Lib.hid (by have := HsL.out; omega), by omega, HS5, HG5⟩
        case measure => (simp [intOf] <;> omega)
      | true =>
        obtain ⟨x, hx⟩ : ∃ x, L[i]? = some x := ⟨_, List.getElem?_eq_getElem (by rw [HnL.out]; exact hlt)⟩
        obtain ⟨gv, rfl, hgv, hgv2, d0, d1, d2⟩ := SpL.cells HG5.out hx
        have HX := Lib.hid hx
        clear hx
        obtain ⟨l, f, t⟩ := x
        dsimp only at d0 d1 d2
        have hs5 := HS5.out.le
        have HB6 := Lib.hid (R3.new w5 l f t 70)
        have HS6 := Lib.hid (HS5.out.alloc (.cells #[.string l, .bool f, .bool t] 70))
        have HG6 : Hid (SpL (w5.alloc (.cells #[.string l, .bool f, .bool t] 70)) w.heap.size (.slice (some ⟨gv, 0, none⟩) N cv) L) := Lib.hid (World.ownsRow.alloc HG5.out _)
        obtain ⟨k6, s6, hk6, hc6⟩ := HS6.out.cur
        have HC6 := Lib.hid hc6
        clear hc6 HS5 HG5
        go_wp2_with fail
        refine (quoted_any g A n c k6 s6 _ (by omega) hn HC6.out HS6.out.rd HA.out).mono ?_
        rintro e w7 ⟨y, hy, rfl, hl⟩
        have HS7 := Lib.hid (HS6.out.call hk6 hl)
        have HB7 := Lib.hid (R3.grown hl.2 (by simp <;> omega) HB6.out)
        have HG7 := Lib.hid (HG6.out.kept hl.2 hgl)
        clear hl HC6 HS6 HB6 HG6 d0 d1 d2
        obtain ⟨⟨bl7, b0, b1, b2⟩, bf0, bf1, bf2⟩ := HB7.out
        go_upto_region 8 with fail
        have HB9 := Lib.hid (HB7.out.set0 y)
        have HS9 := Lib.hid (HS7.out.set w5.heap.size 0 (.string y) (by omega))
        have HG9 : Hid (SpL (w7.setCell ⟨w5.heap.size, 0, none⟩ (.string y)) w.heap.size (.slice (some ⟨gv, 0, none⟩) N cv) L) := Lib.hid (World.ownsRow.kept HG7.out (grown_setc w7 w5.heap.size 0 (.string y)) (.inr (by simp [Value.ownBlock]; omega)))
        clear b0 b1 b2 bf0 bf1 bf2 HB7 HS7 HG7
        generalize w7.setCell ⟨w5.heap.size, 0, none⟩ (.string y) = w9 at *
        obtain ⟨⟨bl9, b0, b1, b2⟩, bf0, bf1, bf2⟩ := HB9.out
        obtain ⟨gv', hge, hgv9, hgv92, d0, d1, d2⟩ := SpL.cells HG9.out HX.out
        obtain rfl : gv = gv' := by cases hge; rfl
        have ho9 : w9.ownsRow w.heap.size 70 3 (.slice (some ⟨gv, 0, none⟩) N cv) N (pcells L) := by have h' := HG9.out; unfold SpL at h'; rw [HnL.out] at h'; exact h'
        have f0 := World.ownsRow.frozenAt ho9 (i * 3)
        have f1 := World.ownsRow.frozenAt ho9 (i * 3 + 1)
        have f2 := World.ownsRow.frozenAt ho9 (i * 3 + 2)
        have HGz := Lib.hid (set3_own (i := i) ⟨y, f, t⟩ HnL.out (by rw [HnL.out]; exact hlt) HG9.out)
        have HSz := Lib.hid (((HS9.out.set gv (i * 3) (.string y) hgv9).set gv (i * 3 + 1) (.bool f) hgv9).set gv (i * 3 + 2) (.bool t) hgv9)
        have HnZ : Hid ((L.set i ⟨y, f, t⟩).length = N) := Lib.hid (by rw [List.length_set]; exact HnL.out)
        have HsZ : Hid (szL (L.set i ⟨y, f, t⟩) ≤ 6 * N + 201 * (i + 1)) := Lib.hid (by have h1 := szL_set (y := ⟨y, f, t⟩) HX.out; have h2 := HsL.out; dsimp only at h1; omega)
        clear ho9 HG9 HS9 HB9 HX hge
        go_wp2_with fail
        go_roundw
        case rel => exact ⟨i + 1, _, _, by omega, by first | rfl | go_num, HnZ, HsZ, by omega, HSz, HGz⟩
        case measure => (simp [intOf] <;> omega)
    · obtain rfl : i = N := by omega
      go_wp2_with fail
      go_ret
      exact ⟨Av, i, cv, L, rfl, HnL.out, hN, HnA, by have := HsL.out; omega, HG, (HS.out.mono (by omega)).left⟩
/-- a drawn list of spans, new -/
def NewSps (m : Nat) (w : World) (e : Ending) (w' : World) : Prop :=
  ∃ (Ap : Option Addr) (N cp : Nat) (L : List Sp1), e = .returned (.slice Ap N cp) ∧ L.length = N ∧ N ≤ 81 ∧ Hid (Ap ≠ none) ∧ szL L ≤ m ∧ Hid (SpL w' w.heap.size (.slice Ap N cp) L) ∧ Below w.heap.size w w'
set_option maxHeartbeats 1000000 in
theorem drawQuoteSpans_any (A : Option Addr) (n c : Nat) (w : World) (hn : n ≤ 65536) (hr : RdB w A n) (ha : Apart A n w.heap.size) :
    Calls Try.prog 18 #[.slice A n c] w (NewSps 16767 w) := by
  have HR := Lib.hid (rdb_new hr ha (.cells #[.slice A n c, .int .i64 0, .int .u64 0] 62))
  have HA := Lib.hid ha
  have HC := Lib.hid (cur_new w A n c)
  clear hr ha
  go_enter Try.func18, Try.ntmps18
  go_wp2_with fail
  refine (quotedSpans_any w.heap.size A n c 0 0 _ (by omega) (by omega) HC.out HR.out HA.out).mono ?_
  rintro e w1 ⟨Ap, N, cp, L, rfl, hL, hN, HnA, hs, HG, hl⟩
  have HB := Lib.hid (below_new hl.2)
  have HGb : Hid (SpL w1 w.heap.size (.slice Ap N cp) L) := Lib.hid (row_base' (by simp) HG.out)
  clear hl HG
  go_wp2_with fail
  go_ret
  exact ⟨Ap, N, cp, L, rfl, hL, hN, HnA, by omega, HGb, HB.out⟩
end Go.Proofs.Ytljbbmefemfjpaa.SpDs
