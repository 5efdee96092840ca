/-
  QuoteSpans of both.
-/
import Derived.Test.YtljbbmefemfjpaaGCr
import Derived.Test.YtljbbmefemfjpaaSpT
import Derived.Test.YtljbbmefemfjpaaQtZ
namespace Go.Proofs.Ytljbbmefemfjpaa.SpQ
open Go.RowKit SpPl Sp SpA SpB SpG SpNs SpNi SpN SpT SpCc SpRs
open QtQ (okQ)
open QtY (quo)
open QtZ (qtV exch exch_size quo_size fail2 quote_i quoteT_s)
set_option linter.unusedSimpArgs false
set_option linter.unusedVariables false

/-- a span that is a quotation mark -/
def mk34 : Sp1 := ⟨⟨#[34]⟩, false, false⟩
/-- can it be quoted -/
def qOk (L : List Sp1) : Bool := okS L && decide (okQ (plB L) = true ∧ (plB L).size + 2 ≤ 200)
def qT (L : List Sp1) : ByteArray := quo (exch (plB L))
/-- the spans of the quoted text -/
def spl (L : List Sp1) : List Sp1 := mk34 :: (rsp (qT L) 1 L ++ [mk34])
/-- what QuoteSpans answers -/
def qz (L : List Sp1) : Bool := qOk L && okS (nmL (spl L))
def qR (L : List Sp1) : List Sp1 := if qOk L then nrR (spl L) else []
theorem qT_size (L : List Sp1) : (qT L).size = szL L + 2 := by unfold qT; rw [quo_size, exch_size, plB_size]
theorem quo_first (t : ByteArray) : (quo t).extract 0 1 = ⟨#[34]⟩ := by
  unfold quo
  apply ByteArray.ext
  rw [ByteArray.data_extract, ByteArray.data_append, ByteArray.data_append]
  apply Array.toList_inj.1
  simp
theorem quo_last (t : ByteArray) : (quo t).extract (t.size + 1) (t.size + 2) = ⟨#[34]⟩ := by
  unfold quo
  rw [ByteArray.extract_append]
  have h : (⟨#[34]⟩ ++ t : ByteArray).size = t.size + 1 := by rw [ByteArray.size_append]; show 1 + t.size = _; omega
  rw [h, ByteArray.extract_eq_empty_iff.2 (by rw [h]; omega)]
  rw [Nat.sub_self, show t.size + 2 - (t.size + 1) = 1 by omega]
  apply ByteArray.ext
  simp
theorem szL_mk (L : List Sp1) : szL (mk34 :: (L ++ [mk34])) = szL L + 2 := by
  have e1 : szL (mk34 :: (L ++ [mk34])) = 1 + szL (L ++ [mk34]) := by simp only [szL, List.map_cons, List.sum_cons]; rfl
  have e2 : szL (L ++ [mk34]) = szL L + 1 := by rw [szL_app, szL_one]; rfl
  omega
theorem spl_eq (L : List Sp1) : rsp (qT L) 0 (mk34 :: (L ++ [mk34])) = spl L := by
  have h1 : (qT L).extract 0 (0 + mk34.l.size) = ⟨#[34]⟩ := quo_first _
  have h2 : (qT L).extract (1 + szL L) (1 + szL L + mk34.l.size) = ⟨#[34]⟩ := by
    have := quo_last (exch (plB L))
    rw [exch_size, plB_size] at this
    show (qT L).extract (1 + szL L) (1 + szL L + 1) = _
    rw [show 1 + szL L = szL L + 1 by omega]
    exact this
  rw [rsp, h1]
  show (⟨⟨#[34]⟩, false, false⟩ : Sp1) :: rsp (qT L) (0 + 1) (L ++ [mk34]) = _
  rw [Nat.zero_add, rsp_snoc, h2]
  rfl
theorem spl_len (L : List Sp1) : (spl L).length = L.length + 2 := by unfold spl; rw [List.length_cons, List.length_append, rsp_len]; rfl
theorem spl_sz (L : List Sp1) : szL (spl L) ≤ szL L + 2 := by
  rw [← spl_eq]
  have := rsp_sz (qT L) 0 (mk34 :: (L ++ [mk34]))
  rw [szL_mk] at this
  exact this
theorem qtV_of (L : List Sp1) (h : okS L = true) : qtV (plB L) = if qOk L then .tuple #[.string (qT L), .bool true] else fail2 := by
  unfold qtV qOk qT
  rw [h, Bool.true_and]
  by_cases hc : okQ (plB L) = true ∧ (plB L).size + 2 ≤ 200
  · rw [if_pos hc, decide_eq_true hc, if_pos rfl]
  · rw [if_neg hc, decide_eq_false hc, if_neg Bool.false_ne_true]
theorem qR_len (L : List Sp1) : (qR L).length ≤ 82 := by
  unfold qR qOk
  cases h : okS L with
  | false => exact Nat.zero_le _
  | true =>
    split
    · have h1 := (nm_facts (spl L)).2
      rw [spl_len] at h1
      have := (okS_yes h).1
      unfold nrR
      split
      · omega
      · exact Nat.zero_le _
    · exact Nat.zero_le _
def QsPost (L : List Sp1) (w : World) (e : Ending) (w' : World) : Prop := ∃ v, e = .returned (.tuple #[v, .bool (qz L)]) ∧ w'.ownsRow w.heap.size 70 3 v (qR L).length (pcells (qR L)) ∧ Below w.heap.size w w'
theorem mk_cells : pcells [mk34] = [.string ⟨#[34]⟩, .bool false, .bool false] := rfl
theorem three_new (w : World) (a b c : Value) (t : TypeId) : ∀ j x, [a, b, c][j]? = some x → (w.alloc (.cells #[a, b, c] t)).cell? ⟨w.heap.size, j, none⟩ = some x := by
  intro j x hx
  match j, hx with
  | 0, hx => cases hx; simp
  | 1, hx => cases hx; simp
  | 2, hx => cases hx; simp
  | j + 3, hx => simp at hx

set_option maxRecDepth 100000 in
set_option maxHeartbeats 4000000 in
theorem qspans_i (g c N : Nat) (L : List Sp1) (w : World) (h : RdSp w (some ⟨g, 0, none⟩) L) (hg : g < w.heap.size) (hn : L.length = N) (hN : N ≤ 1048576) (hs : szL L ≤ 1048576) :
    Calls Try.prog 19 #[.slice (some ⟨g, 0, none⟩) N c] w (QsPost L w) := by
  have HG := Lib.hid (fun z hz => good_i (some ⟨g, 0, none⟩) c N L z w h hn hN hs hz)
  unfold QsPost
  cases hz : okS L with
  | false =>
    have h1 : qz L = false := by unfold qz qOk; rw [hz]; rfl
    have h2 : qR L = [] := by unfold qR qOk; rw [hz]; rfl
    rw [h1, h2]
    have HG1 := Lib.hid (HG.out false hz)
    clear h hz HG h1 h2
    go_enter Try.func19, Try.ntmps19
    go_wp2_with fail
    refine HG1.out.mono ?_
    rintro e w1 ⟨rfl, b1⟩
    have ho := row_base' b1.size (own_nil0 w1)
    have hb := b1.trans ((box_below w1 (.cells #[] 70)).mono b1.size)
    go_wp2_with fail
    go_ret2
    exact ⟨_, rfl, ho, hb⟩
  | true =>
    have HG1 := Lib.hid (HG.out true hz)
    have HP := Lib.hid (fun w' (hb : Below w.heap.size w w') => plain_i (some ⟨g, 0, none⟩) c N L w' (h.below hb) hn hN hs)
    have hps : (plB L).size ≤ 1048576 := by rw [plB_size]; exact hs
    have HQ := Lib.hid (fun w' => quote_i (plB L) w' hps)
    rw [qtV_of L hz] at HQ
    generalize plB L = p at HP HQ
    cases hq : qOk L with
    | false =>
      have h1 : qz L = false := by unfold qz; rw [hq]; rfl
      have h2 : qR L = [] := by unfold qR; rw [hq]; rfl
      rw [h1, h2]
      rw [hq] at HQ
      clear h hz HG h1 h2 hq
      unfold fail2 at HQ
      go_enter Try.func19, Try.ntmps19
      go_wp2_with fail
      refine HG1.out.mono ?_
      rintro e w1 ⟨rfl, b1⟩
      go_wp2_with fail
      refine (HP.out _ b1).mono ?_
      rintro e w2 ⟨rfl, b2⟩
      have k2 := b1.trans (b2.mono b1.size)
      clear b1 b2
      go_wp2_with fail
      refine (HQ.out _).mono ?_
      rintro e w3 ⟨rfl, b3⟩
      have k3 := k2.trans (b3.mono k2.size)
      have ho := row_base' k3.size (own_nil0 w3)
      have hb := k3.trans ((box_below w3 (.cells #[] 70)).mono k3.size)
      clear b3 k2
      go_wp2_with fail
      go_ret2
      exact ⟨_, rfl, ho, hb⟩
    | true =>
      have hqz : qz L = okS (nmL (spl L)) := by unfold qz; rw [hq]; rfl
      have hqR : qR L = nrR (spl L) := by unfold qR; rw [hq]; rfl
      rw [hqz, hqR]
      rw [hq] at HQ
      have hT := qT_size L
      have HTs := Lib.hid (spl_eq L)
      have HLn := Lib.hid (spl_len L)
      have HLz := Lib.hid (spl_sz L)
      have HMk := Lib.hid (szL_mk L)
      have h80 := (okS_yes hz).1
      have h4k := (okS_yes hz).2.1
      have hN80 : N ≤ 80 := by rw [← hn]; exact h80
      generalize spl L = S at *
      generalize qT L = tq at *
      have HRd := Lib.hid h
      have HN := Lib.hid hn
      clear h hz HG hqz hqR hq
      go_enter Try.func19, Try.ntmps19
      go_wp2_with fail
      refine HG1.out.mono ?_
      rintro e w1 ⟨rfl, b1⟩
      go_wp2_with fail
      refine (HP.out _ b1).mono ?_
      rintro e w2 ⟨rfl, b2⟩
      have k2 := b1.trans (b2.mono b1.size)
      clear b1 b2
      go_wp2_with fail
      refine (HQ.out _).mono ?_
      rintro e w3 ⟨rfl, b3⟩
      have k3 : Kp w w3 := k2.trans (b3.mono k2.size)
      clear b3 k2
      have hg3 : g < w3.heap.size := Nat.lt_of_lt_of_le hg (ksz k3)
      have kA : Kp w3 (w3.alloc (.cells #[.string ⟨#[34]⟩, .bool false, .bool false] 70)) := kal (Kp.refl' _) _
      have kB : Kp w3 ((w3.alloc (.cells #[.string ⟨#[34]⟩, .bool false, .bool false] 70)).alloc (.cells #[.slice (some ⟨w3.heap.size, 0, none⟩) 1 1, .slice (some ⟨g, 0, none⟩) N c, .slice (some ⟨w3.heap.size, 0, none⟩) 1 1] 36)) := kal kA _
      have HQs : Hid (RdQs ((w3.alloc (.cells #[.string ⟨#[34]⟩, .bool false, .bool false] 70)).alloc (.cells #[.slice (some ⟨w3.heap.size, 0, none⟩) 1 1, .slice (some ⟨g, 0, none⟩) N c, .slice (some ⟨w3.heap.size, 0, none⟩) 1 1] 36)) (w3.heap.size + 1) [(w3.heap.size, 1, [mk34]), (g, c, L), (w3.heap.size, 1, [mk34])]) := Lib.hid (by
        have hsz : (w3.alloc (.cells #[.string ⟨#[34]⟩, .bool false, .bool false] 70)).heap.size = w3.heap.size + 1 := by simp
        have hc3 := three_new (w3.alloc (.cells #[.string ⟨#[34]⟩, .bool false, .bool false] 70)) (.slice (some ⟨w3.heap.size, 0, none⟩) 1 1) (.slice (some ⟨g, 0, none⟩) N c) (.slice (some ⟨w3.heap.size, 0, none⟩) 1 1) 36
        rw [hsz] at hc3
        have hmk : ∀ i u, (pcells [mk34])[i]? = some u → ((w3.alloc (.cells #[.string ⟨#[34]⟩, .bool false, .bool false] 70)).alloc (.cells #[.slice (some ⟨w3.heap.size, 0, none⟩) 1 1, .slice (some ⟨g, 0, none⟩) N c, .slice (some ⟨w3.heap.size, 0, none⟩) 1 1] 36)).cell? ⟨w3.heap.size, i, none⟩ = some u := fun i u hu => by
          rw [mk_cells] at hu
          have := three_new w3 _ _ _ 70 i u hu
          exact ((kal (Kp.refl' _) _).cell (p := ⟨w3.heap.size, i, none⟩) (by show w3.heap.size < _; rw [hsz]; omega)).trans this
        have hL : ∀ i u, (pcells L)[i]? = some u → ((w3.alloc (.cells #[.string ⟨#[34]⟩, .bool false, .bool false] 70)).alloc (.cells #[.slice (some ⟨w3.heap.size, 0, none⟩) 1 1, .slice (some ⟨g, 0, none⟩) N c, .slice (some ⟨w3.heap.size, 0, none⟩) 1 1] 36)).cell? ⟨g, i, none⟩ = some u := fun i u hu => by
          have := rd_cells (HRd.out.below k3) i u hu
          exact (kB.cell (p := ⟨g, i, none⟩) hg3).trans this
        intro j x hx
        match j, hx with
        | 0, hx => cases hx; exact ⟨by simp, hc3 0 _ rfl, by simp; omega, hmk⟩
        | 1, hx => cases hx; exact ⟨by simp, by have := hc3 1 _ rfl; dsimp only; rw [HN.out]; exact this, by simp; omega, hL⟩
        | 2, hx => cases hx; exact ⟨by simp, hc3 2 _ rfl, by simp; omega, hmk⟩
        | j + 3, hx => simp at hx)
      have hall : all [(w3.heap.size, 1, [mk34]), (g, c, L), (w3.heap.size, 1, [mk34])] = mk34 :: (L ++ [mk34]) := by unfold all; simp
      have hcl : (mk34 :: (L ++ [mk34])).length = N + 2 := by rw [List.length_cons, List.length_append, HN.out]; rfl
      have HCc := Lib.hid (concat_q (w3.heap.size + 1) 3 3 _ _ HQs.out rfl (by rw [hall, hcl]; omega) (by omega))
      unfold CcPost at HCc
      rw [hall] at HCc
      have HCl := Lib.hid hcl
      have kw : Kp w ((w3.alloc (.cells #[.string ⟨#[34]⟩, .bool false, .bool false] 70)).alloc (.cells #[.slice (some ⟨w3.heap.size, 0, none⟩) 1 1, .slice (some ⟨g, 0, none⟩) N c, .slice (some ⟨w3.heap.size, 0, none⟩) 1 1] 36)) := Kp.next k3 (by exact Below.mono kB (Nat.le_refl _))
      clear hall hcl kA kB HQs
      have hs3 := ksz kw
      go_wp2_with (first
        | (go_at_call 44; refine HCc.out.mono ?_; rintro e w4 ⟨v4, rfl, o4, b4⟩
           rw [HCl.out] at o4
           obtain ⟨A4, c4, rfl, _, R4, _⟩ := own_rdp o4
           have k4 : Kp w w4 := Kp.next kw b4
           have HRe := Lib.hid (respell_i A4 c4 (N + 2) _ tq w4 R4 HCl.out (by omega) (by rw [HMk.out, hT]; omega) (by omega))
           unfold RsPost at HRe
           rw [HTs.out] at HRe
           clear o4 b4 R4)
        | (go_at_call 43; refine HRe.out.mono ?_; rintro e w5 ⟨v5, rfl, o5, b5⟩
           obtain ⟨A5, c5, rfl, _, R5, _⟩ := own_rdp o5
           have k5 : Kp w w5 := Kp.next k4 b5
           have HNr := Lib.hid (normres_i A5 c5 S.length S w5 R5 rfl (by rw [HLn.out]; omega) (by have := HLz.out; omega))
           unfold NrPost at HNr
           clear o5 b5 R5)
        | (go_at_call 42; refine HNr.out.mono ?_; rintro e w6 ⟨v6, rfl, o6, b6⟩
           obtain ⟨A6, c6, rfl, _, _, _⟩ := own_rdp o6
           have k6 : Kp w w6 := Kp.next k5 b6
           have HO6 := Lib.hid (row_base' (ksz k5) o6)
           clear o6 b6))
      go_ret2
      exact ⟨_, rfl, HO6.out, k6⟩

set_option maxRecDepth 100000 in
set_option maxHeartbeats 4000000 in
theorem qspans_s (A : Option Addr) (c N : Nat) (L : List Sp1) (w : World) (h : RdSp w A L) (hn : L.length = N) (hN : N ≤ 1048576) (hs : szL L ≤ 1048576) :
    Calls Try.prog 20 #[.slice A N c] w (QsPost L w) := by
  have HG := Lib.hid (fun z hz => good_s A c N L z w h hn hN hs hz)
  obtain ⟨i0, hi, hz0, hz1, hz2⟩ := info_parts infoSp
  unfold QsPost
  cases hz : okS L with
  | false =>
    have h1 : qz L = false := by unfold qz qOk; rw [hz]; rfl
    have h2 : qR L = [] := by unfold qR qOk; rw [hz]; rfl
    rw [h1, h2]
    have HG1 := Lib.hid (HG.out false hz)
    clear h hz HG h1 h2
    go_enter Try.func20, Try.ntmps20
    go_wp2_with fail
    refine HG1.out.mono ?_
    rintro e w1 ⟨rfl, rfl⟩
    have ho := own_nil0 w
    have hb := box_below w (.cells #[] 70)
    go_wp2_with fail
    go_ret2
    exact ⟨_, rfl, ho, hb⟩
  | true =>
    have HG1 := Lib.hid (HG.out true hz)
    have HP := Lib.hid (plain_s A c N L w h hn hN hs)
    have hps : (plB L).size ≤ 1048576 := by rw [plB_size]; exact hs
    have HQ := Lib.hid (fun w' => quoteT_s (plB L) w' hps)
    rw [qtV_of L hz] at HQ
    generalize plB L = p at HP HQ
    cases hq : qOk L with
    | false =>
      have h1 : qz L = false := by unfold qz; rw [hq]; rfl
      have h2 : qR L = [] := by unfold qR; rw [hq]; rfl
      rw [h1, h2]
      rw [hq] at HQ
      clear h hz HG h1 h2 hq
      unfold fail2 at HQ
      go_enter Try.func20, Try.ntmps20
      go_wp2_with fail
      refine HG1.out.mono ?_
      rintro e w1 ⟨rfl, rfl⟩
      go_wp2_with fail
      refine HP.out.mono ?_
      rintro e w2 ⟨rfl, k2⟩
      go_wp2_with fail
      refine (HQ.out _).mono ?_
      rintro e w3 ⟨rfl, b3⟩
      have k3 := k2.trans (b3.mono k2.size)
      have ho := row_base' k3.size (own_nil0 w3)
      have hb := k3.trans ((box_below w3 (.cells #[] 70)).mono k3.size)
      clear b3 k2
      go_wp2_with fail
      go_ret2
      exact ⟨_, rfl, ho, hb⟩
    | true =>
      have hqz : qz L = okS (nmL (spl L)) := by unfold qz; rw [hq]; rfl
      have hqR : qR L = nrR (spl L) := by unfold qR; rw [hq]; rfl
      rw [hqz, hqR]
      rw [hq] at HQ
      have hT := qT_size L
      have HLn := Lib.hid (spl_len L)
      have HLz := Lib.hid (spl_sz L)
      have HSd := Lib.hid (show spl L = mk34 :: (rsp (qT L) 1 L ++ [mk34]) from rfl)
      have h80 := (okS_yes hz).1
      have h4k := (okS_yes hz).2.1
      have hN80 : N ≤ 80 := by rw [← hn]; exact h80
      generalize spl L = S at *
      generalize qT L = tq at *
      have HRd := Lib.hid h
      have HN := Lib.hid hn
      have hts : tq.size = szL L + 2 := hT
      have HTz := Lib.hid hts
      have HM := Lib.hid (fun (A' : Option Addr) (c' : Nat) (w' : World) (h' : RdSp w' A' S) => normal_s A' c' (N + 2) S w' h' (by rw [HLn.out, hn]) (by omega) (by have := HLz.out; omega))
      have hnf := nm_facts S
      have HGd := Lib.hid (fun (A' : Option Addr) (c' : Nat) (w' : World) (h' : RdSp w' A' (nmL S)) => good_s A' c' (nmL S).length (nmL S) (okS (nmL S)) w' h' rfl (by rw [HLn.out] at hnf; omega) (by have := HLz.out; omega) rfl)
      have hnr : nrR S = if okS (nmL S) then nmL S else [] := rfl
      rw [hnr]
      generalize nmL S = NS at HM HGd hnr ⊢
      generalize okS NS = z9 at HGd ⊢
      clear h hz HG hqz hqR hq hnf hnr hT hts
      go_enter Try.func20, Try.ntmps20
      go_wp2_with fail
      refine HG1.out.mono ?_
      rintro e w1 ⟨rfl, rfl⟩
      go_wp2_with fail
      refine HP.out.mono ?_
      rintro e w2 ⟨rfl, k2⟩
      go_wp2_with fail
      refine (HQ.out _).mono ?_
      rintro e w3 ⟨rfl, b3⟩
      have k3 : Kp w w3 := k2.trans (b3.mono k2.size)
      clear b3 k2
      have HO0 : Hid ((w3.alloc (.cells #[.string ⟨#[34]⟩, .bool false, .bool false] 70)).ownsRow w.heap.size 70 3 (.slice (some ⟨w3.heap.size, 0, none⟩) 1 1) 1 (pcells (mk34 :: rsp tq 1 (L.take 0)))) := Lib.hid (row_base' (ksz k3) (World.ownsRow_lit (base := w3.heap.size) (e := 70) (size := 3) w3 #[.string ⟨#[34]⟩, .bool false, .bool false] 1 (Nat.le_refl _) (by decide) (by rfl)))
      have kA : Kp w (w3.alloc (.cells #[.string ⟨#[34]⟩, .bool false, .bool false] 70)) := kal k3 _
      go_wp2_with fail
      go_loopw [6, 7, 8] (fun v a q wr => ∃ k : Nat, k ≤ N ∧ q = .int .i64 k ∧ (∃ p : Nat, p ≤ 5000 ∧ Hid (p = 1 + szL (L.take k)) ∧ a = .int .i64 p) ∧ Hid (wr.ownsRow w.heap.size 70 3 v (k + 1) (pcells (mk34 :: rsp tq 1 (L.take k)))) ∧ Kp w wr) (fun _ _ q _ => N - (intOf q).toNat)
      case atStart => exact ⟨0, Nat.zero_le _, rfl, ⟨1, by omega, Lib.hid (by simp [szL]), rfl⟩, HO0, kA⟩
      case round =>
        obtain ⟨k, hk, rfl, ⟨p9, hp9, HP9, rfl⟩, HO, hb⟩ := hrel
        obtain ⟨A2, c2, rfl, _, RM, hc2⟩ := own_rdp HO.out
        by_cases hlt : k < N
        · have hkx : k < L.length := by rw [HN.out]; exact hlt
          have hx? := List.getElem?_eq_getElem hkx
          obtain ⟨g, o, rfl, hg, c0, c1, c3⟩ := HRd.out k L[k] hx?
          have HF := Lib.hid (rsp_take tq 1 hx?)
          have HZt := Lib.hid (szL_take hx?)
          have HZl := Lib.hid (szL_le L (k + 1))
          clear hx? RM
          generalize L[k] = x at *
          obtain ⟨l, f, b⟩ := x
          dsimp only at c0 c1 c3 HF HZt
          obtain ⟨n, hln⟩ : ∃ n, l.size = n := ⟨_, rfl⟩
          rw [hln] at HF HZt
          rw [← HP9.out] at HF
          have hle : p9 + n ≤ tq.size := by have h1 := HZt.out; have h2 := HZl.out; have h3 := HTz.out; have h5 := HP9.out; omega
          have hp10 : p9 + n ≤ 5000 := by have h3 := HTz.out; omega
          have HP10 : Hid (p9 + n = 1 + szL (L.take (k + 1))) := Lib.hid (by have h1 := HZt.out; have h5 := HP9.out; omega)
          have HF2 := Lib.hid (show pcells (mk34 :: rsp tq 1 (L.take (k + 1))) = pcells (mk34 :: rsp tq 1 (L.take k)) ++ [.string (tq.extract p9 (p9 + n)), .bool f, .bool b] by rw [HF.out, ← List.cons_append, pcells_app]; rfl)
          have hsw := ksz hb
          have HSS : Hid (∀ w', Kp w w' → ((w'.cell? ⟨g, o + k * 3, none⟩ = some (.string l) ∧ w'.cell? ⟨g, o + k * 3 + 1, none⟩ = some (.bool f) ∧ w'.cell? ⟨g, o + k * 3 + 2, none⟩ = some (.bool b)) ∧ Kp w w')) := Lib.hid (fun w' h => ⟨⟨(h.cell (p := ⟨g, o + k * 3, none⟩) hg).trans c0, (h.cell (p := ⟨g, o + k * 3 + 1, none⟩) hg).trans c1, (h.cell (p := ⟨g, o + k * 3 + 2, none⟩) hg).trans c3⟩, h⟩)
          have hcw := (HSS.out wr hb).1
          have HOw : Hid (∀ w', Kp wr w' → w'.ownsRow w.heap.size 70 3 (.slice A2 (k + 1) c2) (k + 1) (pcells (mk34 :: rsp tq 1 (L.take k)))) := Lib.hid (fun w' h => own_kept HO.out h)
          have HK0 : Hid (Kp w wr.drew) := Lib.hid (kdr hb)
          have HLn2 := Lib.hid hln
          obtain ⟨b0, b1, b2⟩ := hcw
          have hw1 : IntKind.i64.wrap ((p9 : Int) + (n : Int)) = (p9 : Int) + (n : Int) := by rw [IntWalk.i64_in _ (by omega)]
          have hw2 : (0 : Int) ≤ (p9 : Int) + (n : Int) := by omega
          have hw3 : ((p9 : Int) + (n : Int)).toNat = p9 + n := by omega
          have hw4 : (p9 : Int) ≤ (p9 : Int) + (n : Int) := by omega
          have hw5 : (p9 : Int) + (n : Int) ≤ (tq.size : Int) := by omega
          clear c0 c1 c3 HF HZt HZl hln
          go_upto_region 12 with fail
          rw [HLn2.out]
          clear b0 b1 b2
          have hkw : Kp w wr := hb
          go_region_held3 (fun w' => (w'.cell? ⟨g, o + k * 3, none⟩ = some (.string l) ∧ w'.cell? ⟨g, o + k * 3 + 1, none⟩ = some (.bool f) ∧ w'.cell? ⟨g, o + k * 3 + 2, none⟩ = some (.bool b)) ∧ Kp w w')
            (first | exact HSS.out _ HK0.out | assumption | exact HSS.out _ (by repeat (first | assumption | exact Kp.refl' _ | refine kdr ?_ | refine kal ?_ _)))
            (
                        (refine step_own (by rfl) _ _ _ (by rfl) w.heap.size 70 i0 _ 3 24 Try.underlying36 hi hz0 hz1 hz2 rfl (by decide) _ (k + 1) _ (by rfl) (HOw.out _ (by repeat (first | assumption | exact Kp.refl' _ | refine kdr ?_ | refine kal ?_ _))) ⟨_, 0, none⟩ 1 1 [.string (tq.extract p9 (p9 + n)), .bool f, .bool b] (by rfl) rfl (cells3_heap (t := 70) (fr := (0, 0)) (by exact heap_alloc_new _ _)) (by simp [Value.oneCell']) (by unfold maxLen; omega) (by omega) (by simp; omega) ?_; intro v8 w8 hown8 hgrow8 hne8; have hk8 := HSS.out _ (grow_b hb (by repeat (first | assumption | exact Kp.refl' _ | refine kdr ?_ | refine kal ?_ _)) hgrow8 (fun q hq => (HO.out.lt q hq).1)))
            )
          all_goals
            have hbw8 := hk8.2
            have HO8 : Hid (w8.ownsRow w.heap.size 70 3 v8 (k + 1 + 1) (pcells (mk34 :: rsp tq 1 (L.take (k + 1))))) := Lib.hid (by rw [HF2.out]; exact hown8)
            clear hown8 hgrow8 hne8 hk8 HSS HK0 HOw hw1 hw2 hw3
            (try clear hHeld)
            go_wp2_with fail
            go_roundw
            case rel => exact ⟨k + 1, by omega, by go_num, ⟨p9 + n, hp10, HP10, by go_num⟩, HO8, hbw8⟩
            case measure => (simp [intOf] <;> omega)
        · obtain rfl : k = N := by omega
          have hE : L.take k = L := List.take_of_length_le (by rw [HN.out]; exact Nat.le_refl _)
          have HOf := Lib.hid ((show wr.ownsRow w.heap.size 70 3 (.slice A2 (k + 1) c2) (k + 1) (pcells (mk34 :: rsp tq 1 L)) by have := HO.out; rw [hE] at this; exact this).alloc (.cells #[.string ⟨#[34]⟩, .bool false, .bool false] 70))
          have hsw := ksz hb
          have HSp : Hid (pcells (mk34 :: rsp tq 1 L) ++ [.string ⟨#[34]⟩, .bool false, .bool false] = pcells S) := Lib.hid (by rw [HSd.out, ← List.cons_append, pcells_app]; rfl)
          clear hE HO RM
          go_wp2_with (first
            | (at_builtin; refine wpList_append_own _ rfl _ _ 36 rfl w.heap.size 70 i0 _ 3 24 Try.underlying36 hi hz0 hz1 hz2 rfl (by decide) (.slice A2 (k + 1) c2) (k + 1) _ rfl HOf.out ⟨wr.heap.size, 0, none⟩ 1 1 [.string ⟨#[34]⟩, .bool false, .bool false] rfl rfl (cell_three_new _ _ _ _ _) (by simp [Value.oneCell']) (by unfold maxLen; omega) (by omega) (by simp; omega) ?_; intro v8 w8 hown8 hgrow8 hne8
               rw [HSp.out] at hown8
               obtain ⟨A8, c8, rfl, _, R8, _⟩ := own_rdp hown8
               have k8 : Kp w w8 := grow_b hb (kal (Kp.refl' _) _) hgrow8 (fun q hq => (HOf.out.lt q hq).1)
               have HM8 := Lib.hid (HM.out A8 c8 w8 R8)
               clear hown8 hgrow8 hne8 R8)
            | (go_at_call 47; refine HM8.out.mono ?_; rintro e w9 ⟨v9, rfl, o9, b9⟩
               obtain ⟨A9, c9, rfl, _, R9, _⟩ := own_rdp o9
               have k9 : Kp w w9 := Kp.next k8 b9
               have HO9 := Lib.hid (row_base' (ksz k8) o9)
               have HG9 := Lib.hid (HGd.out A9 c9 w9 R9)
               clear o9 b9 R9))
          refine HG9.out.mono ?_
          rintro e w10 ⟨rfl, rfl⟩
          cases z9 with
          | false =>
            have ho := row_base' (ksz k9) (own_nil0 w9)
            have hb := Kp.next k9 (box_below w9 (.cells #[] 70))
            go_wp2_with fail
            go_ret2
            exact ⟨_, rfl, ho, hb⟩
          | true =>
            go_wp2_with fail
            go_ret2
            exact ⟨_, rfl, HO9.out, k9⟩
end Go.Proofs.Ytljbbmefemfjpaa.SpQ
