/-
  Several texts of one claim in one file: Td, Td2, Td3, Td4, Td5.
-/
import Derived.Test.YteccmlpibbchbaaGreatDoorGLr
import Derived.Test.YteccmlpibbchbaaGreatDoorGCt
import Derived.Deep.RegionHeld3
import Derived.Deep.DeepCutAuto
import Derived.Lib.BufferMore
import Derived.Test.YteccmlpibbchbaaGreatDoorGLb
/-
  Texts of labels, rounds: plain facts.
-/
namespace Go.Proofs.YteccmlpibbchbaaGreatDoor.Tdn
open Go.ChangeShapes Go.WideShapes Go.ChangeAt Go.RowKit Go.Joins Go.Deep
open Pl Strs Help Name Stands SplitPl NmPl Word Part NGood Nms Jn Ens Lab Kpz Ce Rdf LdPl Lbs Lbr Cit
open Num (Tab Tab.below)
set_option linter.unusedSimpArgs false
set_option linter.unusedVariables false

/-- the texts that labels give -/
def txs (L : List En) (S : List Lb4) : List ByteArray := List.zipWith (fun x l => ctS x l.n l.d l.t) L S
theorem txs_len {L : List En} {S : List Lb4} {N : Nat} (h : L.length = N) (h' : S.length = N) : (txs L S).length = N := by
  unfold txs
  rw [List.length_zipWith, h, h', Nat.min_self]
theorem txs_at {L : List En} {S : List Lb4} {k : Nat} {x : En} {l : Lb4} (h : L[k]? = some x) (h' : S[k]? = some l) : (txs L S)[k]? = some (ctS x l.n l.d l.t) := by
  unfold txs
  rw [List.getElem?_zipWith, h, h']
theorem txs_take {L : List En} {S : List Lb4} {k : Nat} {x : En} {l : Lb4} (h : L[k]? = some x) (h' : S[k]? = some l) : (txs L S).take (k + 1) = (txs L S).take k ++ [ctS x l.n l.d l.t] := by
  rw [List.take_add_one, txs_at h h', Option.toList_some]
/-- does the text at a place differ from one to which it was equal -/
def told (B A : List ByteArray) (i : Nat) : Bool := (List.range B.length).any fun o => decide (B[o]? = B[i]?) && decide (A[o]? ≠ A[i]?)
/-- a round -/
def rnd (c : Lb4 → Lb4) (L : List En) (S : List Lb4) : List Lb4 := S.mapIdx fun i x => if told (txs L S) (txs L (S.map c)) i then c x else x
theorem rnd_len (c : Lb4 → Lb4) (L : List En) (S : List Lb4) : (rnd c L S).length = S.length := by simp [rnd]
theorem rnd_at {c : Lb4 → Lb4} {L : List En} {S : List Lb4} {i : Nat} {x : Lb4} (h : S[i]? = some x) : (rnd c L S)[i]? = some (if told (txs L S) (txs L (S.map c)) i then c x else x) := by
  unfold rnd
  rw [List.getElem?_mapIdx, h]
  rfl
def c1 (x : Lb4) : Lb4 := ⟨x.k, 4, x.d, x.t⟩
def c2 (x : Lb4) : Lb4 := ⟨x.k, x.n, 2, x.t⟩
def c3 (x : Lb4) : Lb4 := ⟨x.k, x.n, 3, x.t⟩
/-- the labels before the last round -/
def unl (L : List En) (z : Int) : List Lb4 := rnd c3 L (rnd c2 L (rnd c1 L (plL L z)))
def okS (S : List Lb4) : Prop := ∀ l ∈ S, wrt l.n l.d l.t = true
theorem okS_map {S : List Lb4} {c : Lb4 → Lb4} (hc : ∀ x, wrt x.n x.d x.t = true → wrt (c x).n (c x).d (c x).t = true) (h : okS S) : okS (S.map c) := by
  intro l hl
  obtain ⟨x, hx, rfl⟩ := List.mem_map.1 hl
  exact hc x (h x hx)
theorem okS_rnd {S : List Lb4} {c : Lb4 → Lb4} (L : List En) (hc : ∀ x, wrt x.n x.d x.t = true → wrt (c x).n (c x).d (c x).t = true) (h : okS S) : okS (rnd c L S) := by
  intro l hl
  obtain ⟨i, hi, rfl⟩ := List.getElem_of_mem hl
  have hi' : i < S.length := by rw [rnd_len] at hi; exact hi
  have := rnd_at (c := c) (L := L) (List.getElem?_eq_getElem hi')
  rw [List.getElem?_eq_getElem hi] at this
  rw [Option.some.inj this]
  split
  · exact hc _ (h _ (List.getElem_mem hi'))
  · exact h _ (List.getElem_mem hi')
theorem wrt_c1 (x : Lb4) (h : wrt x.n x.d x.t = true) : wrt (c1 x).n (c1 x).d (c1 x).t = true := by
  unfold wrt at h ⊢
  simp only [Bool.and_eq_true, decide_eq_true_eq] at h ⊢
  obtain ⟨⟨⟨h1, h2⟩, h3, h4⟩, h5, h6⟩ := h
  exact ⟨⟨⟨by first | exact h1 | (show (1 : Int) ≤ 4; decide), by first | exact h2 | (show (4 : Int) ≤ 4; decide)⟩, by first | exact h3 | (show (1 : Int) ≤ 2; decide) | (show (1 : Int) ≤ 3; decide), by first | exact h4 | (show (2 : Int) ≤ 3; decide) | (show (3 : Int) ≤ 3; decide)⟩, h5, h6⟩
theorem wrt_c2 (x : Lb4) (h : wrt x.n x.d x.t = true) : wrt (c2 x).n (c2 x).d (c2 x).t = true := by
  unfold wrt at h ⊢
  simp only [Bool.and_eq_true, decide_eq_true_eq] at h ⊢
  obtain ⟨⟨⟨h1, h2⟩, h3, h4⟩, h5, h6⟩ := h
  exact ⟨⟨⟨by first | exact h1 | (show (1 : Int) ≤ 4; decide), by first | exact h2 | (show (4 : Int) ≤ 4; decide)⟩, by first | exact h3 | (show (1 : Int) ≤ 2; decide) | (show (1 : Int) ≤ 3; decide), by first | exact h4 | (show (2 : Int) ≤ 3; decide) | (show (3 : Int) ≤ 3; decide)⟩, h5, h6⟩
theorem wrt_c3 (x : Lb4) (h : wrt x.n x.d x.t = true) : wrt (c3 x).n (c3 x).d (c3 x).t = true := by
  unfold wrt at h ⊢
  simp only [Bool.and_eq_true, decide_eq_true_eq] at h ⊢
  obtain ⟨⟨⟨h1, h2⟩, h3, h4⟩, h5, h6⟩ := h
  exact ⟨⟨⟨by first | exact h1 | (show (1 : Int) ≤ 4; decide), by first | exact h2 | (show (4 : Int) ≤ 4; decide)⟩, by first | exact h3 | (show (1 : Int) ≤ 2; decide) | (show (1 : Int) ≤ 3; decide), by first | exact h4 | (show (2 : Int) ≤ 3; decide) | (show (3 : Int) ≤ 3; decide)⟩, h5, h6⟩
theorem okS_plL (L : List En) {z : Int} (h : 1 ≤ z ∧ z ≤ 4) : okS (plL L z) := by
  intro l hl
  obtain ⟨x, _, rfl⟩ := List.mem_map.1 hl
  unfold wrt
  simp only [Bool.and_eq_true, decide_eq_true_eq]
  omega
/-- a row of texts that a call makes -/
def TxP (xs : List ByteArray) (w : World) (e : Ending) (w' : World) : Prop := ∃ v, e = .returned v ∧ w'.ownsRow w.heap.size 9 1 v xs.length (xs.map Value.string) ∧ Kp w w'
theorem grown_cell {w w' : World} {row : Option Nat} {b i : Nat} (hg : w.grownBy w' row) (hb : b < w.heap.size) (hr : row ≠ some b) : w'.cell? ⟨b, i, none⟩ = w.cell? ⟨b, i, none⟩ := by
  have h := hg.block b hb (by first | exact hr | exact hr.symm | exact fun e => hr e | exact fun e => hr e.symm)
  simp [World.cell?, h]
/-- an append at a step of a region that draws its order -/
theorem step_app {P : Program} {w : World} {ops : Array Oper} {o : Oper} {a : Act} {K : Act → World → Prop} {Q : Exit → Act → World → Prop} {E : Prop}
    (hg : o.guard = none) (s x : Operand) (t : TypeId) (hop : o.op = Op.call { callee := Callee.builtin Builtin.append, args := #[s, x], argTypes := #[t, t] })
    (base : Nat) (e : TypeId) (i : TypeInfo) (z : Value) (size bytes : Nat) (h1 : P.underlying t = some (.slice e)) (h2 : P.info? e = some i) (h3 : i.zero = some z) (h4 : i.size = size) (h5 : i.bytes = bytes) (h6 : z.cells.size = size) (h7 : 0 < size)
    (v : Value) (k : Nat) (xs : List Value) (hs : a.eval s = v) (hown : w.ownsRow base e size v k xs)
    (ad : Addr) (m c : Nat) (news : List Value) (hx : a.eval x = .slice (some ad) m c) (hn : news.length = m * size) (hc : ∀ j u, news[j]? = some u → w.cell? (ad.add j) = some u) (h1c : ∀ u ∈ news, u.oneCell' = true)
    (b1 : k + m ≤ maxLen) (b2 : (k + m) * bytes ≤ 140737488355328) (b3 : base ≤ w.heap.size)
    (hK : ∀ v' w', w'.ownsRow base e size v' (k + m) (xs ++ news) → w.grownBy w' v.ownBlock → (v'.ownBlock = v.ownBlock ∨ v'.ownBlock = some w.heap.size) → K (a.put o.dst v') w') :
    if Region.wanted o (yielded ops a.tmps) = true then Oper.wp P o a w K Q else E := by
  have hw : Region.wanted o (yielded ops a.tmps) = true := by simp [Region.wanted, hg]
  rw [if_pos hw]
  obtain ⟨v', w', hrun, r1, r2, _, r4⟩ := run_append_own_at (P := P) (w := w) base t o.type e i z size bytes h1 h2 h3 h4 h5 h6 h7 v k xs hown ad m c news hn hc h1c b1 b2 b3
  unfold Oper.wp
  simp [execOp, hop, resolve, invoke, builtin, hs, hx, hrun, Result.andThen]
  exact hK v' w' r1 r2 r4
end Go.Proofs.YteccmlpibbchbaaGreatDoor.Tdn
/-
  citationTexts and l14Texts.
-/
namespace Go.Proofs.YteccmlpibbchbaaGreatDoor.Tdn
open Go.ChangeShapes Go.WideShapes Go.ChangeAt Go.RowKit Go.Joins Go.Deep
open Pl Strs Help Name Stands SplitPl NmPl Word Part NGood Nms Jn Ens Lab Kpz Ce Rdf LdPl Lbs Lbr Cit
open Num (Tab Tab.below)
set_option linter.unusedSimpArgs false
set_option linter.unusedVariables false


set_option maxRecDepth 100000 in
set_option maxHeartbeats 16000000 in
theorem texts_i (A : Option Addr) (c N : Nat) (L : List En) (B : Option Addr) (c' : Nat) (S : List Lb4) (w : World) (h : RdE w A L) (hn : L.length = N) (hm : N ≤ 8) (hS : RdL w B S) (hSn : S.length = N) (hz : ∀ x ∈ L, x.sz ≤ 1048576) (hok : ∀ x ∈ L, okE x = true) (hw : okS S) (hcp : Cap L) (ht : Tab w) (hmn : Mon w) :
    Calls Tryz.prog 33 #[.agg #[.slice A N c], .slice B N c'] w (TxP (txs L S) w) := by
  obtain ⟨i0, hi, hz0, hz1, hz2⟩ := info_parts Split.infoStr
  have hb0 : Kp w (w.alloc (.cells #[.slice A N c] 33)) := kal (kre _) _
  have hc0 := (box1 w (.slice A N c) 33).1
  have hs0 : w.heap.size < (w.alloc (.cells #[.slice A N c] 33)).heap.size := by simp
  have H := Lib.hid h
  have HS := Lib.hid hS
  have HN := Lib.hid hn
  have HSN := Lib.hid hSn
  have HZ := Lib.hid hz
  have HOk := Lib.hid hok
  have HW := Lib.hid hw
  have HCp := Lib.hid hcp
  have HTb := Lib.hid (fun (W : World) (k : Kp w W) => (⟨ht.below k, hmn.below k⟩ : Tab W ∧ Mon W))
  have HXl : Hid ((txs L S).length = N) := Lib.hid (txs_len hn hSn)
  unfold TxP
  rw [HXl.out]
  clear h hS hn hSn hz hok hw hcp ht hmn
  go_enter Tryz.func33, Tryz.ntmps33
  go_upto_region 1 with fail
  generalize w.alloc (.cells #[.slice A N c] 33) = w0 at hb0 hc0 hs0 ⊢
  have ho0 : (w0.alloc (.cells #[] 9)).ownsRow w0.heap.size 9 1 (.slice (some ⟨w0.heap.size, 0, none⟩) 0 0) 0 [] := by
    have h9 := World.ownsRow_lit (base := w0.heap.size) (e := 9) (size := 1) w0 #[] 0 (Nat.le_refl _) (Nat.zero_le _) rfl
    simpa using h9
  have hb1 : Kp w0 (w0.alloc (.cells #[] 9)) := kal (kre _) _
  have HC : Hid (∀ W, Kp w0 W → W.cell? ⟨w.heap.size, 0, none⟩ = some (.slice A N c)) := Lib.hid (fun W h => (h.cell (p := ⟨w.heap.size, 0, none⟩) hs0).trans hc0)
  have hc1 := HC.out _ hb1
  go_upto_region 2 with fail
  generalize hW : w0.alloc (.cells #[] 9) = w1 at ho0 hb1 hc1 ⊢
  clear hW hc0
  go_wp2_with fail
  go_loopw [5, 12] (fun v i wr => ∃ k : Nat, k ≤ N ∧ i = .int .i64 k ∧ wr.ownsRow w0.heap.size 9 1 v k (((txs L S).take k).map Value.string) ∧ Kp w0 wr) (fun _ i _ => N - (intOf i).toNat)
  case atStart => exact ⟨0, Nat.zero_le _, rfl, by simpa using ho0, hb1⟩
  case round =>
    obtain ⟨k, hk, rfl, hown, kw⟩ := hrel
    have hcw := HC.out _ kw
    by_cases hlt : k < N
    · have hkx : k < L.length := by rw [HN.out]; exact hlt
      have hky : k < S.length := by rw [HSN.out]; exact hlt
      have hx? := List.getElem?_eq_getElem hkx
      have hy? := List.getElem?_eq_getElem hky
      obtain ⟨hxr, g, o, rfl, hg, a0, a1, a2, a3, a4, a5, a6, a7, a8, a9, a10, a11, a12, a13⟩ := (H.out.below (ktr hb0 kw)) k L[k] hx?
      have hgB : ∀ g' o', B = some ⟨g', o', none⟩ → g' < w.heap.size := fun g' o' e => by
        obtain ⟨_, _, e', hl, -⟩ := HS.out k S[k] hy?
        rw [e'] at e
        cases e
        exact hl
      obtain ⟨g2, o2, rfl, hg2, l0, l1, l2, l3⟩ := (HS.out.below (ktr hb0 kw)) k S[k] hy?
      have hg2w := hgB g2 o2 rfl
      clear hgB
      obtain ⟨-, _, _, ea', hgw', -⟩ := H.out k L[k] hx?
      have hgw : g < w.heap.size := by cases ea'; exact hgw'
      clear ea' hgw'
      have HX := Lib.hid (txs_take hx? hy?)
      have hxz := HZ.out _ (List.getElem_mem hkx)
      have hxo := HOk.out _ (List.getElem_mem hkx)
      have hyw := HW.out _ (List.getElem_mem hky)
      have hxc := HCp.out _ (List.getElem_mem hkx)
      clear hx? hy?
      generalize L[k] = x at *
      generalize S[k] = yl at *
      obtain ⟨key, kind, auA, auN, auc, auL, edA, edN, edc, edL, ti, co, pu, y, m, d, ci, vol, pa, cr⟩ := x
      obtain ⟨lk, ln, ld, lt⟩ := yl
      dsimp only at a0 a1 a2 a3 a4 a5 a6 a7 a8 a9 a10 a11 a12 a13 l0 l1 l2 l3 hyw
      have HX2 : Hid ((txs L S).take (k + 1) = (txs L S).take k ++ [ctS ⟨key, kind, auA, auN, auc, auL, edA, edN, edc, edL, ti, co, pu, y, m, d, ci, vol, pa, cr⟩ ln ld lt]) := HX
      clear HX
      have b5 : Kp wr (wr.alloc (.cells #[.string key, .int .i64 kind, .slice auA auN auc, .slice edA edN edc, .string ti, .string co, .string pu, .int .i64 y, .int .i64 m, .int .i64 d, .bool ci, .int .i64 vol, .string pa, .string cr] 58)) := kal (kre _) _
      have hX := E14.new wr (⟨key, kind, auA, auN, auc, auL, edA, edN, edc, edL, ti, co, pu, y, m, d, ci, vol, pa, cr⟩ : En) 58
      have hown2 := own_kp hown b5
      have kw2 := ktr kw b5
      have hcw2 := HC.out _ kw2
      have HL : Hid (∀ W, Kp wr W → W.cell? ⟨g2, o2 + k * 4, none⟩ = some (.string lk) ∧ W.cell? ⟨g2, o2 + k * 4 + 1, none⟩ = some (.int .i64 ln) ∧ W.cell? ⟨g2, o2 + k * 4 + 2, none⟩ = some (.int .i64 ld) ∧ W.cell? ⟨g2, o2 + k * 4 + 3, none⟩ = some (.int .i64 lt)) := Lib.hid (fun W h => ⟨(h.cell (p := ⟨g2, o2 + k * 4, none⟩) hg2).trans l0, (h.cell (p := ⟨g2, o2 + k * 4 + 1, none⟩) hg2).trans l1, (h.cell (p := ⟨g2, o2 + k * 4 + 2, none⟩) hg2).trans l2, (h.cell (p := ⟨g2, o2 + k * 4 + 3, none⟩) hg2).trans l3⟩)
      go_upto_region 5 with fail
      generalize hW2 : wr.alloc (.cells #[.string key, .int .i64 kind, .slice auA auN auc, .slice edA edN edc, .string ti, .string co, .string pu, .int .i64 y, .int .i64 m, .int .i64 d, .bool ci, .int .i64 vol, .string pa, .string cr] 58) = w2 at hown2 kw2 hX b5 hcw2 ⊢
      clear hW2
      have HTx := Lib.hid (fun W (kk : Kp w2 W) => text_i key kind auA auN auc auL edA edN edc edL ti co pu y m d ci vol pa cr lk ln ld lt W (hxr.below (ktr b5 kk)) hxz hxo hxc hyw (HTb.out W (ktr (ktr hb0 kw2) kk)).1 (HTb.out W (ktr (ktr hb0 kw2) kk)).2)
      have HSt : Hid (∀ W, Kept w2 W → W.cell? ⟨wr.heap.size, 0, none⟩ = some (.string key) ∧ W.cell? ⟨wr.heap.size, 1, none⟩ = some (.int .i64 kind) ∧ W.cell? ⟨wr.heap.size, 2, none⟩ = some (.slice auA auN auc) ∧ W.cell? ⟨wr.heap.size, 3, none⟩ = some (.slice edA edN edc) ∧ W.cell? ⟨wr.heap.size, 4, none⟩ = some (.string ti) ∧ W.cell? ⟨wr.heap.size, 5, none⟩ = some (.string co) ∧ W.cell? ⟨wr.heap.size, 6, none⟩ = some (.string pu) ∧ W.cell? ⟨wr.heap.size, 7, none⟩ = some (.int .i64 y) ∧ W.cell? ⟨wr.heap.size, 8, none⟩ = some (.int .i64 m) ∧ W.cell? ⟨wr.heap.size, 9, none⟩ = some (.int .i64 d) ∧ W.cell? ⟨wr.heap.size, 10, none⟩ = some (.bool ci) ∧ W.cell? ⟨wr.heap.size, 11, none⟩ = some (.int .i64 vol) ∧ W.cell? ⟨wr.heap.size, 12, none⟩ = some (.string pa) ∧ W.cell? ⟨wr.heap.size, 13, none⟩ = some (.string cr) ∧ W.cell? ⟨g2, o2 + k * 4, none⟩ = some (.string lk) ∧ W.cell? ⟨g2, o2 + k * 4 + 1, none⟩ = some (.int .i64 ln) ∧ W.cell? ⟨g2, o2 + k * 4 + 2, none⟩ = some (.int .i64 ld) ∧ W.cell? ⟨g2, o2 + k * 4 + 3, none⟩ = some (.int .i64 lt)) := Lib.hid (fun W hk2 => by
        obtain ⟨hl, e0, e1, e2, e3, e4, e5, e6, e7, e8, e9, e10, e11, e12, e13⟩ := hX.below hk2
        obtain ⟨q0, q1, q2, q3⟩ := HL.out W (ktr b5 hk2)
        exact ⟨e0, e1, e2, e3, e4, e5, e6, e7, e8, e9, e10, e11, e12, e13, q0, q1, q2, q3⟩)
      have HK0 := Lib.hid (Kept.drew w2)
      have HO2 := Lib.hid hown2
      have HNe := Lib.hid hown.lt
      have hs0' := hs0
      have hsz2 := ksz kw2
      have hwr2 : wr.heap.size < w2.heap.size := hX.1
      clear hown hown2 a0 a1 a2 a3 a4 a5 a6 a7 a8 a9 a10 a11 a12 a13 l0 l1 l2 l3 hX hcw2
      generalize ctS ⟨key, kind, auA, auN, auc, auL, edA, edN, edc, edL, ti, co, pu, y, m, d, ci, vol, pa, cr⟩ ln ld lt = T at *
      
      go_region_held3 (fun W => W.cell? ⟨wr.heap.size, 0, none⟩ = some (.string key) ∧ W.cell? ⟨wr.heap.size, 1, none⟩ = some (.int .i64 kind) ∧ W.cell? ⟨wr.heap.size, 2, none⟩ = some (.slice auA auN auc) ∧ W.cell? ⟨wr.heap.size, 3, none⟩ = some (.slice edA edN edc) ∧ W.cell? ⟨wr.heap.size, 4, none⟩ = some (.string ti) ∧ W.cell? ⟨wr.heap.size, 5, none⟩ = some (.string co) ∧ W.cell? ⟨wr.heap.size, 6, none⟩ = some (.string pu) ∧ W.cell? ⟨wr.heap.size, 7, none⟩ = some (.int .i64 y) ∧ W.cell? ⟨wr.heap.size, 8, none⟩ = some (.int .i64 m) ∧ W.cell? ⟨wr.heap.size, 9, none⟩ = some (.int .i64 d) ∧ W.cell? ⟨wr.heap.size, 10, none⟩ = some (.bool ci) ∧ W.cell? ⟨wr.heap.size, 11, none⟩ = some (.int .i64 vol) ∧ W.cell? ⟨wr.heap.size, 12, none⟩ = some (.string pa) ∧ W.cell? ⟨wr.heap.size, 13, none⟩ = some (.string cr) ∧ W.cell? ⟨g2, o2 + k * 4, none⟩ = some (.string lk) ∧ W.cell? ⟨g2, o2 + k * 4 + 1, none⟩ = some (.int .i64 ln) ∧ W.cell? ⟨g2, o2 + k * 4 + 2, none⟩ = some (.int .i64 ld) ∧ W.cell? ⟨g2, o2 + k * 4 + 3, none⟩ = some (.int .i64 lt))
        (first | exact HSt.out _ HK0.out | exact HSt.out _ (by assumption) | exact HSt.out _ (kal (by assumption) _) | exact hs4)
        (first
          | (refine step_app (by rfl) _ _ _ (by rfl) w0.heap.size 9 i0 (.string ByteArray.empty) 1 16 Tryz.underlying61 hi hz0 hz1 hz2 rfl (by decide) _ k _ (by rfl) ((own_kp HO2.out hk3).alloc _) ⟨w3.heap.size, 0, none⟩ 1 1 [.string T] (by rfl) rfl (cell_one_new _ _ _) (by simp [Value.oneCell']) (by unfold maxLen; omega) (by omega) (by have := ksz hk3; simp; omega) ?_; intro v' w4 hown' hgrow hat; have hk4 : Kp w0 w4 := kgr (kal (ktr kw2 hk3) _) hgrow (fun j hj => (HO2.out.lt j hj).1); have hg1 : ∀ i, w4.cell? ⟨wr.heap.size, i, none⟩ = (w3.alloc (.cells #[.string T] 9)).cell? ⟨wr.heap.size, i, none⟩ := (fun i => grown_cell hgrow (by have h1 := ksz hk3; have h2 := hwr2; simp; omega) (fun e => by have := (HNe.out _ e).2; omega)); have hg3 : ∀ i, w4.cell? ⟨g2, i, none⟩ = (w3.alloc (.cells #[.string T] 9)).cell? ⟨g2, i, none⟩ := (fun i => grown_cell hgrow (by have h1 := ksz hk3; simp; omega) (fun e => by have := (HNe.out _ e).1; omega)); obtain ⟨z0, z1, z2, z3, z4, z5, z6, z7, z8, z9, z10, z11, z12, z13, z14, z15, z16, z17⟩ := HSt.out _ (kal hk3 (.cells #[.string T] 9)); have hs4 : w4.cell? ⟨wr.heap.size, 0, none⟩ = some (.string key) ∧ w4.cell? ⟨wr.heap.size, 1, none⟩ = some (.int .i64 kind) ∧ w4.cell? ⟨wr.heap.size, 2, none⟩ = some (.slice auA auN auc) ∧ w4.cell? ⟨wr.heap.size, 3, none⟩ = some (.slice edA edN edc) ∧ w4.cell? ⟨wr.heap.size, 4, none⟩ = some (.string ti) ∧ w4.cell? ⟨wr.heap.size, 5, none⟩ = some (.string co) ∧ w4.cell? ⟨wr.heap.size, 6, none⟩ = some (.string pu) ∧ w4.cell? ⟨wr.heap.size, 7, none⟩ = some (.int .i64 y) ∧ w4.cell? ⟨wr.heap.size, 8, none⟩ = some (.int .i64 m) ∧ w4.cell? ⟨wr.heap.size, 9, none⟩ = some (.int .i64 d) ∧ w4.cell? ⟨wr.heap.size, 10, none⟩ = some (.bool ci) ∧ w4.cell? ⟨wr.heap.size, 11, none⟩ = some (.int .i64 vol) ∧ w4.cell? ⟨wr.heap.size, 12, none⟩ = some (.string pa) ∧ w4.cell? ⟨wr.heap.size, 13, none⟩ = some (.string cr) ∧ w4.cell? ⟨g2, o2 + k * 4, none⟩ = some (.string lk) ∧ w4.cell? ⟨g2, o2 + k * 4 + 1, none⟩ = some (.int .i64 ln) ∧ w4.cell? ⟨g2, o2 + k * 4 + 2, none⟩ = some (.int .i64 ld) ∧ w4.cell? ⟨g2, o2 + k * 4 + 3, none⟩ = some (.int .i64 lt) := ⟨(hg1 _).trans z0, (hg1 _).trans z1, (hg1 _).trans z2, (hg1 _).trans z3, (hg1 _).trans z4, (hg1 _).trans z5, (hg1 _).trans z6, (hg1 _).trans z7, (hg1 _).trans z8, (hg1 _).trans z9, (hg1 _).trans z10, (hg1 _).trans z11, (hg1 _).trans z12, (hg1 _).trans z13, (hg3 _).trans z14, (hg3 _).trans z15, (hg3 _).trans z16, (hg3 _).trans z17⟩)
          | (go_at_call 54; refine (HTx.out _ HK0.out).mono ?_; rintro e w3 ⟨rfl, b3⟩; have hk3 : Kept w2 w3 := ktr HK0.out b3)
          | fail)
      (try clear hHeld)
      have HO4 := Lib.hid hown'
      go_wp2_with fail
      go_roundw
      case rel =>
        refine ⟨k + 1, by omega, by go_num, ?_, hk4⟩
        rw [HX2.out, List.map_append]
        exact HO4.out
      case measure => simp [intOf]; omega
    · obtain rfl : k = N := by omega
      have HT : Hid ((txs L S).take k = txs L S) := Lib.hid (List.take_of_length_le (by rw [HXl.out]; exact Nat.le_refl _))
      rw [HT.out] at hown
      go_wp2_with fail
      go_ret
      exact ⟨_, rfl, Cs.row_base (Nat.le_of_lt hs0) hown, ktr hb0 kw⟩

set_option maxRecDepth 100000 in
set_option maxHeartbeats 16000000 in
theorem texts_s (A : Option Addr) (c N : Nat) (L : List En) (B : Option Addr) (c' : Nat) (S : List Lb4) (w : World) (h : RdE w A L) (hn : L.length = N) (hm : N ≤ 8) (hS : RdL w B S) (hSn : S.length = N) (hz : ∀ x ∈ L, x.sz ≤ 1048576) (hok : ∀ x ∈ L, okE x = true) (hw : okS S) :
    Calls Tryz.prog 26 #[.agg #[.slice A N c], .slice B N c'] w (TxP (txs L S) w) := by
  obtain ⟨i0, hi, hz0, hz1, hz2⟩ := info_parts Split.infoStr
  have hb0 : Kp w (w.alloc (.cells #[.slice A N c] 33)) := kal (kre _) _
  have hc0 := (box1 w (.slice A N c) 33).1
  have hs0 : w.heap.size < (w.alloc (.cells #[.slice A N c] 33)).heap.size := by simp
  have H := Lib.hid h
  have HS := Lib.hid hS
  have HN := Lib.hid hn
  have HSN := Lib.hid hSn
  have HZ := Lib.hid hz
  have HOk := Lib.hid hok
  have HW := Lib.hid hw
  have HXl : Hid ((txs L S).length = N) := Lib.hid (txs_len hn hSn)
  unfold TxP
  rw [HXl.out]
  clear h hS hn hSn hz hok hw
  go_enter Tryz.func26, Tryz.ntmps26
  go_upto_region 1 with fail
  generalize w.alloc (.cells #[.slice A N c] 33) = w0 at hb0 hc0 hs0 ⊢
  have ho0 : (w0.alloc (.cells #[] 9)).ownsRow w0.heap.size 9 1 (.slice (some ⟨w0.heap.size, 0, none⟩) 0 0) 0 [] := by
    have h9 := World.ownsRow_lit (base := w0.heap.size) (e := 9) (size := 1) w0 #[] 0 (Nat.le_refl _) (Nat.zero_le _) rfl
    simpa using h9
  have hb1 : Kp w0 (w0.alloc (.cells #[] 9)) := kal (kre _) _
  have HC : Hid (∀ W, Kp w0 W → W.cell? ⟨w.heap.size, 0, none⟩ = some (.slice A N c)) := Lib.hid (fun W h => (h.cell (p := ⟨w.heap.size, 0, none⟩) hs0).trans hc0)
  have hc1 := HC.out _ hb1
  go_upto_region 2 with fail
  generalize hW : w0.alloc (.cells #[] 9) = w1 at ho0 hb1 hc1 ⊢
  clear hW hc0
  go_wp2_with fail
  go_loopw [5, 6] (fun v i wr => ∃ k : Nat, k ≤ N ∧ i = .int .i64 k ∧ wr.ownsRow w0.heap.size 9 1 v k (((txs L S).take k).map Value.string) ∧ Kp w0 wr) (fun _ i _ => N - (intOf i).toNat)
  case atStart => exact ⟨0, Nat.zero_le _, rfl, by simpa using ho0, hb1⟩
  case round =>
    obtain ⟨k, hk, rfl, hown, kw⟩ := hrel
    have hcw := HC.out _ kw
    by_cases hlt : k < N
    · have hkx : k < L.length := by rw [HN.out]; exact hlt
      have hky : k < S.length := by rw [HSN.out]; exact hlt
      have hx? := List.getElem?_eq_getElem hkx
      have hy? := List.getElem?_eq_getElem hky
      obtain ⟨hxr, g, o, rfl, hg, a0, a1, a2, a3, a4, a5, a6, a7, a8, a9, a10, a11, a12, a13⟩ := (H.out.below (ktr hb0 kw)) k L[k] hx?
      have hgB : ∀ g' o', B = some ⟨g', o', none⟩ → g' < w.heap.size := fun g' o' e => by
        obtain ⟨_, _, e', hl, -⟩ := HS.out k S[k] hy?
        rw [e'] at e
        cases e
        exact hl
      obtain ⟨g2, o2, rfl, hg2, l0, l1, l2, l3⟩ := (HS.out.below (ktr hb0 kw)) k S[k] hy?
      have hg2w := hgB g2 o2 rfl
      clear hgB
      obtain ⟨-, _, _, ea', hgw', -⟩ := H.out k L[k] hx?
      have hgw : g < w.heap.size := by cases ea'; exact hgw'
      clear ea' hgw'
      have HX := Lib.hid (txs_take hx? hy?)
      have hxz := HZ.out _ (List.getElem_mem hkx)
      have hxo := HOk.out _ (List.getElem_mem hkx)
      have hyw := HW.out _ (List.getElem_mem hky)
      clear hx? hy?
      generalize L[k] = x at *
      generalize S[k] = yl at *
      obtain ⟨key, kind, auA, auN, auc, auL, edA, edN, edc, edL, ti, co, pu, y, m, d, ci, vol, pa, cr⟩ := x
      obtain ⟨lk, ln, ld, lt⟩ := yl
      dsimp only at a0 a1 a2 a3 a4 a5 a6 a7 a8 a9 a10 a11 a12 a13 l0 l1 l2 l3 hyw
      have HX2 : Hid ((txs L S).take (k + 1) = (txs L S).take k ++ [ctS ⟨key, kind, auA, auN, auc, auL, edA, edN, edc, edL, ti, co, pu, y, m, d, ci, vol, pa, cr⟩ ln ld lt]) := HX
      clear HX
      have kw2 := kw
      have hown2 := hown
      have b5 : Kp wr wr := kre _
      have HAe : Hid (∀ W, Kp wr W → W.cell? ⟨w.heap.size, 0, none⟩ = some (.slice (some ⟨g, o, none⟩) N c) ∧ W.cell? ⟨g, o + k * 14, none⟩ = some (.string key) ∧ W.cell? ⟨g, o + k * 14 + 1, none⟩ = some (.int .i64 kind) ∧ W.cell? ⟨g, o + k * 14 + 2, none⟩ = some (.slice auA auN auc) ∧ W.cell? ⟨g, o + k * 14 + 3, none⟩ = some (.slice edA edN edc) ∧ W.cell? ⟨g, o + k * 14 + 4, none⟩ = some (.string ti) ∧ W.cell? ⟨g, o + k * 14 + 5, none⟩ = some (.string co) ∧ W.cell? ⟨g, o + k * 14 + 6, none⟩ = some (.string pu) ∧ W.cell? ⟨g, o + k * 14 + 7, none⟩ = some (.int .i64 y) ∧ W.cell? ⟨g, o + k * 14 + 8, none⟩ = some (.int .i64 m) ∧ W.cell? ⟨g, o + k * 14 + 9, none⟩ = some (.int .i64 d) ∧ W.cell? ⟨g, o + k * 14 + 10, none⟩ = some (.bool ci) ∧ W.cell? ⟨g, o + k * 14 + 11, none⟩ = some (.int .i64 vol) ∧ W.cell? ⟨g, o + k * 14 + 12, none⟩ = some (.string pa) ∧ W.cell? ⟨g, o + k * 14 + 13, none⟩ = some (.string cr) ∧ W.cell? ⟨g2, o2 + k * 4, none⟩ = some (.string lk) ∧ W.cell? ⟨g2, o2 + k * 4 + 1, none⟩ = some (.int .i64 ln) ∧ W.cell? ⟨g2, o2 + k * 4 + 2, none⟩ = some (.int .i64 ld) ∧ W.cell? ⟨g2, o2 + k * 4 + 3, none⟩ = some (.int .i64 lt)) := Lib.hid (fun W h => ⟨HC.out W (ktr kw h), (h.cell (p := ⟨g, o + k * 14, none⟩) hg).trans a0, (h.cell (p := ⟨g, o + k * 14 + 1, none⟩) hg).trans a1, (h.cell (p := ⟨g, o + k * 14 + 2, none⟩) hg).trans a2, (h.cell (p := ⟨g, o + k * 14 + 3, none⟩) hg).trans a3, (h.cell (p := ⟨g, o + k * 14 + 4, none⟩) hg).trans a4, (h.cell (p := ⟨g, o + k * 14 + 5, none⟩) hg).trans a5, (h.cell (p := ⟨g, o + k * 14 + 6, none⟩) hg).trans a6, (h.cell (p := ⟨g, o + k * 14 + 7, none⟩) hg).trans a7, (h.cell (p := ⟨g, o + k * 14 + 8, none⟩) hg).trans a8, (h.cell (p := ⟨g, o + k * 14 + 9, none⟩) hg).trans a9, (h.cell (p := ⟨g, o + k * 14 + 10, none⟩) hg).trans a10, (h.cell (p := ⟨g, o + k * 14 + 11, none⟩) hg).trans a11, (h.cell (p := ⟨g, o + k * 14 + 12, none⟩) hg).trans a12, (h.cell (p := ⟨g, o + k * 14 + 13, none⟩) hg).trans a13, (h.cell (p := ⟨g2, o2 + k * 4, none⟩) hg2).trans l0, (h.cell (p := ⟨g2, o2 + k * 4 + 1, none⟩) hg2).trans l1, (h.cell (p := ⟨g2, o2 + k * 4 + 2, none⟩) hg2).trans l2, (h.cell (p := ⟨g2, o2 + k * 4 + 3, none⟩) hg2).trans l3⟩)
      generalize hW2 : wr = w2 at *
      clear hW2
      have HTx := Lib.hid (fun W (kk : Kp w2 W) => text_s key kind auA auN auc auL edA edN edc edL ti co pu y m d ci vol pa cr lk ln ld lt W (hxr.below kk) hxz hxo hyw)
      have HSt : Hid (∀ W, Kept w2 W → W.cell? ⟨w.heap.size, 0, none⟩ = some (.slice (some ⟨g, o, none⟩) N c) ∧ W.cell? ⟨g, o + k * 14, none⟩ = some (.string key) ∧ W.cell? ⟨g, o + k * 14 + 1, none⟩ = some (.int .i64 kind) ∧ W.cell? ⟨g, o + k * 14 + 2, none⟩ = some (.slice auA auN auc) ∧ W.cell? ⟨g, o + k * 14 + 3, none⟩ = some (.slice edA edN edc) ∧ W.cell? ⟨g, o + k * 14 + 4, none⟩ = some (.string ti) ∧ W.cell? ⟨g, o + k * 14 + 5, none⟩ = some (.string co) ∧ W.cell? ⟨g, o + k * 14 + 6, none⟩ = some (.string pu) ∧ W.cell? ⟨g, o + k * 14 + 7, none⟩ = some (.int .i64 y) ∧ W.cell? ⟨g, o + k * 14 + 8, none⟩ = some (.int .i64 m) ∧ W.cell? ⟨g, o + k * 14 + 9, none⟩ = some (.int .i64 d) ∧ W.cell? ⟨g, o + k * 14 + 10, none⟩ = some (.bool ci) ∧ W.cell? ⟨g, o + k * 14 + 11, none⟩ = some (.int .i64 vol) ∧ W.cell? ⟨g, o + k * 14 + 12, none⟩ = some (.string pa) ∧ W.cell? ⟨g, o + k * 14 + 13, none⟩ = some (.string cr) ∧ W.cell? ⟨g2, o2 + k * 4, none⟩ = some (.string lk) ∧ W.cell? ⟨g2, o2 + k * 4 + 1, none⟩ = some (.int .i64 ln) ∧ W.cell? ⟨g2, o2 + k * 4 + 2, none⟩ = some (.int .i64 ld) ∧ W.cell? ⟨g2, o2 + k * 4 + 3, none⟩ = some (.int .i64 lt)) := Lib.hid (fun W hk2 => by
        obtain ⟨q, e0, e1, e2, e3, e4, e5, e6, e7, e8, e9, e10, e11, e12, e13, q0, q1, q2, q3⟩ := HAe.out W hk2
        exact ⟨q, e0, e1, e2, e3, e4, e5, e6, e7, e8, e9, e10, e11, e12, e13, q0, q1, q2, q3⟩)
      have HK0 := Lib.hid (Kept.drew w2)
      have HO2 := Lib.hid hown2
      have HNe := Lib.hid hown.lt
      have hs0' := hs0
      have hsz2 := ksz kw2
      clear hown hown2 a0 a1 a2 a3 a4 a5 a6 a7 a8 a9 a10 a11 a12 a13 l0 l1 l2 l3
      generalize ctS ⟨key, kind, auA, auN, auc, auL, edA, edN, edc, edL, ti, co, pu, y, m, d, ci, vol, pa, cr⟩ ln ld lt = T at *
      go_wp2_with fail
      go_region_held3 (fun W => W.cell? ⟨w.heap.size, 0, none⟩ = some (.slice (some ⟨g, o, none⟩) N c) ∧ W.cell? ⟨g, o + k * 14, none⟩ = some (.string key) ∧ W.cell? ⟨g, o + k * 14 + 1, none⟩ = some (.int .i64 kind) ∧ W.cell? ⟨g, o + k * 14 + 2, none⟩ = some (.slice auA auN auc) ∧ W.cell? ⟨g, o + k * 14 + 3, none⟩ = some (.slice edA edN edc) ∧ W.cell? ⟨g, o + k * 14 + 4, none⟩ = some (.string ti) ∧ W.cell? ⟨g, o + k * 14 + 5, none⟩ = some (.string co) ∧ W.cell? ⟨g, o + k * 14 + 6, none⟩ = some (.string pu) ∧ W.cell? ⟨g, o + k * 14 + 7, none⟩ = some (.int .i64 y) ∧ W.cell? ⟨g, o + k * 14 + 8, none⟩ = some (.int .i64 m) ∧ W.cell? ⟨g, o + k * 14 + 9, none⟩ = some (.int .i64 d) ∧ W.cell? ⟨g, o + k * 14 + 10, none⟩ = some (.bool ci) ∧ W.cell? ⟨g, o + k * 14 + 11, none⟩ = some (.int .i64 vol) ∧ W.cell? ⟨g, o + k * 14 + 12, none⟩ = some (.string pa) ∧ W.cell? ⟨g, o + k * 14 + 13, none⟩ = some (.string cr) ∧ W.cell? ⟨g2, o2 + k * 4, none⟩ = some (.string lk) ∧ W.cell? ⟨g2, o2 + k * 4 + 1, none⟩ = some (.int .i64 ln) ∧ W.cell? ⟨g2, o2 + k * 4 + 2, none⟩ = some (.int .i64 ld) ∧ W.cell? ⟨g2, o2 + k * 4 + 3, none⟩ = some (.int .i64 lt))
        (first | exact HSt.out _ HK0.out | exact HSt.out _ (by assumption) | exact HSt.out _ (kal (by assumption) _) | exact hs4)
        (first
          | (refine step_app (by rfl) _ _ _ (by rfl) w0.heap.size 9 i0 (.string ByteArray.empty) 1 16 Tryz.underlying61 hi hz0 hz1 hz2 rfl (by decide) _ k _ (by rfl) ((own_kp HO2.out hk3).alloc _) ⟨w3.heap.size, 0, none⟩ 1 1 [.string T] (by rfl) rfl (cell_one_new _ _ _) (by simp [Value.oneCell']) (by unfold maxLen; omega) (by omega) (by have := ksz hk3; simp; omega) ?_; intro v' w4 hown' hgrow hat; have hk4 : Kp w0 w4 := kgr (kal (ktr kw2 hk3) _) hgrow (fun j hj => (HO2.out.lt j hj).1); have hg0 : ∀ b i, b < w0.heap.size → w4.cell? ⟨b, i, none⟩ = (w3.alloc (.cells #[.string T] 9)).cell? ⟨b, i, none⟩ := (fun b i hlt => grown_cell hgrow (by have h1 := ksz hk3; simp; omega) (fun e => by have := (HNe.out _ e).1; omega)); obtain ⟨z0, z1, z2, z3, z4, z5, z6, z7, z8, z9, z10, z11, z12, z13, z14, z15, z16, z17, z18⟩ := HSt.out _ (kal hk3 (.cells #[.string T] 9)); have hs4 : w4.cell? ⟨w.heap.size, 0, none⟩ = some (.slice (some ⟨g, o, none⟩) N c) ∧ w4.cell? ⟨g, o + k * 14, none⟩ = some (.string key) ∧ w4.cell? ⟨g, o + k * 14 + 1, none⟩ = some (.int .i64 kind) ∧ w4.cell? ⟨g, o + k * 14 + 2, none⟩ = some (.slice auA auN auc) ∧ w4.cell? ⟨g, o + k * 14 + 3, none⟩ = some (.slice edA edN edc) ∧ w4.cell? ⟨g, o + k * 14 + 4, none⟩ = some (.string ti) ∧ w4.cell? ⟨g, o + k * 14 + 5, none⟩ = some (.string co) ∧ w4.cell? ⟨g, o + k * 14 + 6, none⟩ = some (.string pu) ∧ w4.cell? ⟨g, o + k * 14 + 7, none⟩ = some (.int .i64 y) ∧ w4.cell? ⟨g, o + k * 14 + 8, none⟩ = some (.int .i64 m) ∧ w4.cell? ⟨g, o + k * 14 + 9, none⟩ = some (.int .i64 d) ∧ w4.cell? ⟨g, o + k * 14 + 10, none⟩ = some (.bool ci) ∧ w4.cell? ⟨g, o + k * 14 + 11, none⟩ = some (.int .i64 vol) ∧ w4.cell? ⟨g, o + k * 14 + 12, none⟩ = some (.string pa) ∧ w4.cell? ⟨g, o + k * 14 + 13, none⟩ = some (.string cr) ∧ w4.cell? ⟨g2, o2 + k * 4, none⟩ = some (.string lk) ∧ w4.cell? ⟨g2, o2 + k * 4 + 1, none⟩ = some (.int .i64 ln) ∧ w4.cell? ⟨g2, o2 + k * 4 + 2, none⟩ = some (.int .i64 ld) ∧ w4.cell? ⟨g2, o2 + k * 4 + 3, none⟩ = some (.int .i64 lt) := ⟨(hg0 _ _ hs0).trans z0, (hg0 _ _ (by omega)).trans z1, (hg0 _ _ (by omega)).trans z2, (hg0 _ _ (by omega)).trans z3, (hg0 _ _ (by omega)).trans z4, (hg0 _ _ (by omega)).trans z5, (hg0 _ _ (by omega)).trans z6, (hg0 _ _ (by omega)).trans z7, (hg0 _ _ (by omega)).trans z8, (hg0 _ _ (by omega)).trans z9, (hg0 _ _ (by omega)).trans z10, (hg0 _ _ (by omega)).trans z11, (hg0 _ _ (by omega)).trans z12, (hg0 _ _ (by omega)).trans z13, (hg0 _ _ (by omega)).trans z14, (hg0 _ _ (by omega)).trans z15, (hg0 _ _ (by omega)).trans z16, (hg0 _ _ (by omega)).trans z17, (hg0 _ _ (by omega)).trans z18⟩)
          | (go_at_call 49; refine (HTx.out _ HK0.out).mono ?_; rintro e w3 ⟨rfl, b3⟩; have hk3 : Kept w2 w3 := ktr HK0.out b3)
          | fail)
      (try clear hHeld)
      have HO4 := Lib.hid hown'
      go_wp2_with fail
      go_roundw
      case rel =>
        refine ⟨k + 1, by omega, by go_num, ?_, hk4⟩
        rw [HX2.out, List.map_append]
        exact HO4.out
      case measure => simp [intOf]; omega
    · obtain rfl : k = N := by omega
      have HT : Hid ((txs L S).take k = txs L S) := Lib.hid (List.take_of_length_le (by rw [HXl.out]; exact Nat.le_refl _))
      rw [HT.out] at hown
      go_wp2_with fail
      go_ret
      exact ⟨_, rfl, Cs.row_base (Nat.le_of_lt hs0) hown, ktr hb0 kw⟩
end Go.Proofs.YteccmlpibbchbaaGreatDoor.Tdn
/-
  isToldApart, slices.Clone at labels, the closures of nameChanges.
-/
namespace Go.Proofs.YteccmlpibbchbaaGreatDoor.Tdn
open Go.ChangeShapes Go.WideShapes Go.ChangeAt Go.RowKit Go.Joins Go.Deep
open Pl Strs Help Name Stands SplitPl NmPl Word Part NGood Nms Jn Ens Lab Kpz Ce Rdf LdPl Lbs Lbr Cit
open Num (Tab Tab.below)
set_option linter.unusedSimpArgs false
set_option linter.unusedVariables false

theorem rds_kp {w w' : World} {A : Option Addr} {xs : List ByteArray} (h : RdS w A xs) (hb : Kp w w') : RdS w' A xs := by
  intro j x hx
  obtain ⟨g, o, e, c⟩ := h j x hx
  exact ⟨g, o, e, (hb.cell (p := ⟨g, o + j, none⟩) (lt_cell c)).trans c⟩
theorem told_no {B A : List ByteArray} {i k : Nat} (h : ∀ o, o < k → ¬ (B[o]? = B[i]? ∧ A[o]? ≠ A[i]?)) (hk : B.length ≤ k) : told B A i = false := by
  unfold told
  rw [List.any_eq_false]
  intro o ho
  have := h o (Nat.lt_of_lt_of_le (List.mem_range.1 ho) hk)
  simp only [Bool.and_eq_true, decide_eq_true_eq]
  exact this
theorem told_yes {B A : List ByteArray} {i k : Nat} (hk : k < B.length) (h1 : B[k]? = B[i]?) (h2 : A[k]? ≠ A[i]?) : told B A i = true := by
  unfold told
  rw [List.any_eq_true]
  exact ⟨k, List.mem_range.2 hk, by simp only [Bool.and_eq_true, decide_eq_true_eq]; exact ⟨h1, h2⟩⟩
set_option maxRecDepth 100000 in
set_option maxHeartbeats 8000000 in
theorem told_i (Ab : Option Addr) (cb : Nat) (Aa : Option Addr) (ca : Nat) (N i : Nat) (B A : List ByteArray) (w : World) (hB : RdS w Ab B) (hA : RdS w Aa A) (nB : B.length = N) (nA : A.length = N) (hi : i < N) (hm : N ≤ 8) :
    Calls Tryz.prog 85 #[.slice Ab N cb, .slice Aa N ca, .int .i64 (i : Int)] w fun e w' => e = .returned (.bool (told B A i)) ∧ Kp w w' := by
  obtain ⟨bi, hbi⟩ : ∃ x, B[i]? = some x := ⟨_, List.getElem?_eq_getElem (by rw [nB]; exact hi)⟩
  obtain ⟨ai, hai⟩ : ∃ x, A[i]? = some x := ⟨_, List.getElem?_eq_getElem (by rw [nA]; exact hi)⟩
  obtain ⟨gb, ob, rfl, xb⟩ := hB i bi hbi
  obtain ⟨ga, oa, rfl, xa⟩ := hA i ai hai
  have HRB := Lib.hid hB
  have HRA := Lib.hid hA
  have HNB := Lib.hid nB
  have HNA := Lib.hid nA
  have HBi := Lib.hid hbi
  have HAi := Lib.hid hai
  obtain ⟨T, hT⟩ : ∃ b, told B A i = b := ⟨_, rfl⟩
  have HT := Lib.hid hT
  rw [hT]
  have HXb : Hid (∀ W, Kp w W → W.cell? ⟨gb, ob + i, none⟩ = some (.string bi) ∧ W.cell? ⟨ga, oa + i, none⟩ = some (.string ai)) := Lib.hid (fun W h => ⟨(h.cell (p := ⟨gb, ob + i, none⟩) (lt_cell xb)).trans xb, (h.cell (p := ⟨ga, oa + i, none⟩) (lt_cell xa)).trans xa⟩)
  have hiI : (i : Int) < (N : Int) := by omega
  have hi0 : (0 : Int) ≤ (i : Int) := by omega
  clear hB hA nB nA hbi hai xb xa hT
  go_enter Tryz.func85, Tryz.ntmps85
  go_wp2_with fail
  go_loopw [11] (fun j wr => ∃ k : Nat, k ≤ N ∧ j = .int .i64 k ∧ Hid (∀ o, o < k → ¬ (B[o]? = B[i]? ∧ A[o]? ≠ A[i]?)) ∧ Kp w wr) (fun j _ => N - (intOf j).toNat)
  case atStart => exact ⟨0, Nat.zero_le _, rfl, Lib.hid (fun o ho => absurd ho (Nat.not_lt_zero _)), kre _⟩
  case round =>
    obtain ⟨k, hk, rfl, HD, kw⟩ := hrel
    by_cases hlt : k < N
    · obtain ⟨bk, hbk⟩ : ∃ x, B[k]? = some x := ⟨_, List.getElem?_eq_getElem (by rw [HNB.out]; exact hlt)⟩
      obtain ⟨ak, hak⟩ : ∃ x, A[k]? = some x := ⟨_, List.getElem?_eq_getElem (by rw [HNA.out]; exact hlt)⟩
      obtain ⟨_, _, eb, yb⟩ := rds_kp HRB.out kw k bk hbk
      cases eb
      obtain ⟨_, _, ea, ya⟩ := rds_kp HRA.out kw k ak hak
      cases ea
      obtain ⟨xb, xa⟩ := HXb.out _ kw
      have hkI : (k : Int) < (N : Int) := by omega
      have hk0 : (0 : Int) ≤ (k : Int) := by omega
      by_cases e1 : bk = bi
      · have hq1 : (bk.toList == bi.toList) = true := by rw [e1]; simp
        by_cases e2 : ak = ai
        · have hq2 : (ak.toList == ai.toList) = true := by rw [e2]; simp
          have HD2 : Hid (∀ o, o < k + 1 → ¬ (B[o]? = B[i]? ∧ A[o]? ≠ A[i]?)) := Lib.hid (fun o ho => by
            rcases Nat.lt_or_ge o k with h | h
            · exact HD.out o h
            · obtain rfl : o = k := by omega
              intro h9
              exact h9.2 (by rw [hak, HAi.out, e2]))
          clear e1 e2 hbk hak
          go_wp2_with fail
          go_quiet (fail)
          go_wp2_with fail
          go_roundw
          case rel => exact ⟨k + 1, by omega, by go_num, HD2, kdn kw _⟩
          case measure => simp [intOf]; omega
        · have hq2 := ne_forms' e2
          have HE : Hid (T = true) := Lib.hid (by rw [← HT.out]; exact told_yes (by rw [HNB.out]; exact hlt) (by rw [hbk, HBi.out, e1]) (by rw [hak, HAi.out]; exact fun h => e2 (Option.some.inj h)))
          clear e1 e2 hbk hak
          go_wp2_with fail
          go_quiet (fail)
          go_wp2_with fail
          go_ret
          exact ⟨by rw [HE.out]; rfl, kdn kw _⟩
      · have hq1 := ne_forms' e1
        have HD2 : Hid (∀ o, o < k + 1 → ¬ (B[o]? = B[i]? ∧ A[o]? ≠ A[i]?)) := Lib.hid (fun o ho => by
          rcases Nat.lt_or_ge o k with h | h
          · exact HD.out o h
          · obtain rfl : o = k := by omega
            intro h9
            exact e1 (Option.some.inj (by rw [← hbk, ← HBi.out, h9.1])))
        clear e1 hbk hak
        go_wp2_with fail
        go_quiet (fail)
        go_wp2_with fail
        go_roundw
        case rel => exact ⟨k + 1, by omega, by go_num, HD2, kdn kw _⟩
        case measure => simp [intOf]; omega
    · obtain rfl : k = N := by omega
      have HE : Hid (T = false) := Lib.hid (by rw [← HT.out]; exact told_no HD.out (by rw [HNB.out]; exact Nat.le_refl _))
      go_wp2_with fail
      go_ret
      exact ⟨by rw [HE.out]; rfl, kw⟩
theorem lcells_one (S : List Lb4) : ∀ u ∈ lcells S, u.oneCell' = true := by
  intro u hu
  unfold lcells at hu
  obtain ⟨x, _, hx⟩ := List.mem_flatMap.1 hu
  unfold Lb4.cs at hx
  simp only [List.mem_cons, List.not_mem_nil, or_false] at hx
  rcases hx with rfl | rfl | rfl | rfl <;> rfl
set_option maxRecDepth 100000 in
set_option maxHeartbeats 4000000 in
theorem clone_i (base : Nat) (v : Value) (N : Nat) (S : List Lb4) (w : World) (h : w.ownsRow base 53 4 v N (lcells S)) (hm : N ≤ 8) :
    Calls Tryz.prog 84 #[v] w fun e w' => ∃ v', e = .returned v' ∧ w'.ownsRow w.heap.size 53 4 v' N (lcells S) ∧ Kp w w' := by
  obtain ⟨i0, hi, hz0, hz1, hz2⟩ := Lbr.info_parts infoLab
  have hl : (lcells S).length = N * 4 := h.1
  rcases h.2 with ⟨rfl, rfl⟩ | ⟨g, cap, cur, rfl, hrest⟩
  · have hS : lcells S = [] := List.eq_nil_of_length_eq_zero (by rw [hl])
    rw [hS]
    have hnil := Lib.run_eql_slice_nil_nil (P := Tryz.prog) w 0 0 Tryz.underlying35
    go_enter Tryz.func84, Tryz.ntmps84
    go_wp2_with fail
    go_ret
    exact ⟨_, rfl, World.ownsRow_nil _ _ _ _, kre _⟩
  · have ho0 := empty_row w w.heap.size (Nat.le_refl _)
    have hb0 : Kp w (w.alloc (.cells #[] 53)) := kal (kre _) _
    have h1 := own_kp h hb0
    have HCs : Hid (∀ j u, (lcells S)[j]? = some u → (w.alloc (.cells #[] 53)).cell? ((⟨g, 0, none⟩ : Addr).add j) = some u) := Lib.hid (fun j u hu => by
      have hj : j < N * 4 := by rw [← hl]; exact (List.getElem?_eq_some_iff.1 hu).1
      have := World.ownsRow.cellAt h1 j hj
      rw [hu] at this
      rw [Go.WideShapes.add_plain, Nat.zero_add]
      exact this)
    have HOn := Lib.hid (lcells_one S)
    have HL := Lib.hid hl
    clear h h1 hl hrest cur
    generalize lcells S = C at *
    have hnil := fun W => Lib.run_eql_slice_some_nil (P := Tryz.prog) W ⟨g, 0, none⟩ N cap Tryz.underlying35
    go_enter Tryz.func84, Tryz.ntmps84
    go_wp2_with (first
      | (at_builtin; refine wpList_append_own _ rfl _ _ 35 rfl w.heap.size 53 i0 _ 4 40 Tryz.underlying35 hi hz0 hz1 hz2 rfl (by decide) _ 0 _ rfl ho0 ⟨g, 0, none⟩ N cap C rfl HL.out HCs.out HOn.out (by unfold maxLen; omega) (by omega) (by simp) ?_; intro v' w3 hown' hgrow _)
      | go_in)
    go_ret
    refine ⟨_, rfl, ?_, kgr hb0 hgrow (fun j hj => by have := (ho0.lt j hj).1; omega)⟩
    rw [Nat.zero_add] at hown'
    exact hown'

theorem clo1_i (g q : Nat) (u : Value) (w : World) (hc : w.cell? ⟨g, q + 1, none⟩ = some u) (hf : w.frozen? ⟨g, q + 1, none⟩ = false) :
    Calls Tryz.prog 81 #[.pointer (some ⟨g, q, none⟩)] w fun e w' => e = .returned (.tuple #[]) ∧ w' = w.setCell ⟨g, q + 1, none⟩ (.int .i64 4) := by
  go_enter Tryz.func81, Tryz.ntmps81
  go_wp2_with fail
  go_end0
  exact ⟨rfl, rfl⟩

theorem clo2_i (g q : Nat) (u : Value) (w : World) (hc : w.cell? ⟨g, q + 2, none⟩ = some u) (hf : w.frozen? ⟨g, q + 2, none⟩ = false) :
    Calls Tryz.prog 82 #[.pointer (some ⟨g, q, none⟩)] w fun e w' => e = .returned (.tuple #[]) ∧ w' = w.setCell ⟨g, q + 2, none⟩ (.int .i64 2) := by
  go_enter Tryz.func82, Tryz.ntmps82
  go_wp2_with fail
  go_end0
  exact ⟨rfl, rfl⟩

theorem clo3_i (g q : Nat) (u : Value) (w : World) (hc : w.cell? ⟨g, q + 2, none⟩ = some u) (hf : w.frozen? ⟨g, q + 2, none⟩ = false) :
    Calls Tryz.prog 83 #[.pointer (some ⟨g, q, none⟩)] w fun e w' => e = .returned (.tuple #[]) ∧ w' = w.setCell ⟨g, q + 2, none⟩ (.int .i64 3) := by
  go_enter Tryz.func83, Tryz.ntmps83
  go_wp2_with fail
  go_end0
  exact ⟨rfl, rfl⟩
end Go.Proofs.YteccmlpibbchbaaGreatDoor.Tdn
/-
  changeNames.
-/
namespace Go.Proofs.YteccmlpibbchbaaGreatDoor.Tdn
open Go.ChangeShapes Go.WideShapes Go.ChangeAt Go.RowKit Go.Joins Go.Deep
open Pl Strs Help Name Stands SplitPl NmPl Word Part NGood Nms Jn Ens Lab Kpz Ce Rdf LdPl Lbs Lbr Cit
open Num (Tab Tab.below)
set_option linter.unusedSimpArgs false
set_option linter.unusedVariables false

theorem mix_set {R M : List Lb4} {k : Nat} {x : Lb4} (hR : R[k]? = some x) (hk : k < M.length) (hl : k ≤ R.length) : (R.take k ++ M.drop k).set k x = R.take (k + 1) ++ M.drop (k + 1) := by
  have hlen : (R.take k).length = k := by rw [List.length_take]; omega
  rw [List.set_append_right _ _ (by omega), hlen, Nat.sub_self, List.drop_eq_getElem_cons hk, List.set_cons_zero, List.take_add_one, hR, Option.toList_some, List.append_assoc]
  rfl
theorem mix_keep {R M : List Lb4} {k : Nat} {x : Lb4} (hR : R[k]? = some x) (hM : M[k]? = some x) : R.take k ++ M.drop k = R.take (k + 1) ++ M.drop (k + 1) := by
  obtain ⟨hk, e⟩ := List.getElem?_eq_some_iff.1 hM
  rw [List.drop_eq_getElem_cons hk, e, List.take_add_one, hR, Option.toList_some, List.append_assoc]
  rfl
theorem mix_at {R M : List Lb4} {k : Nat} (h : R.length = M.length) (hk : k < M.length) : (R.take k ++ M.drop k)[k]? = M[k]? := by
  have hlen : (R.take k).length = k := by rw [List.length_take]; omega
  rw [List.getElem?_append_right (by omega), hlen, Nat.sub_self, List.getElem?_drop, Nat.add_zero]
theorem mix_len {R M : List Lb4} {k N : Nat} (h : R.length = N) (h' : M.length = N) (hk : k ≤ N) : (R.take k ++ M.drop k).length = N := by
  rw [List.length_append, List.length_take, List.length_drop]; omega
theorem lset1 {L : List Lb4} {k : Nat} {x : Lb4} (h : L[k]? = some x) : (lcells L).set (k * 4 + 1) (.int .i64 4) = lcells (L.set k (c1 x)) := by
  induction L generalizing k with
  | nil => simp at h
  | cons y r ih =>
    cases k with
    | zero =>
      simp at h
      subst h
      rfl
    | succ k =>
      rw [lcells_cons, show (y :: r).set (k + 1) (c1 x) = y :: r.set k (c1 x) from rfl, lcells_cons, ← ih (by simpa using h), show (k + 1) * 4 + 1 = (k * 4 + 1) + 1 + 1 + 1 + 1 by omega]
      simp only [List.set_cons_succ]
theorem lset2 {L : List Lb4} {k : Nat} {x : Lb4} (h : L[k]? = some x) : (lcells L).set (k * 4 + 2) (.int .i64 2) = lcells (L.set k (c2 x)) := by
  induction L generalizing k with
  | nil => simp at h
  | cons y r ih =>
    cases k with
    | zero =>
      simp at h
      subst h
      rfl
    | succ k =>
      rw [lcells_cons, show (y :: r).set (k + 1) (c2 x) = y :: r.set k (c2 x) from rfl, lcells_cons, ← ih (by simpa using h), show (k + 1) * 4 + 2 = (k * 4 + 2) + 1 + 1 + 1 + 1 by omega]
      simp only [List.set_cons_succ]
theorem lset3 {L : List Lb4} {k : Nat} {x : Lb4} (h : L[k]? = some x) : (lcells L).set (k * 4 + 2) (.int .i64 3) = lcells (L.set k (c3 x)) := by
  induction L generalizing k with
  | nil => simp at h
  | cons y r ih =>
    cases k with
    | zero =>
      simp at h
      subst h
      rfl
    | succ k =>
      rw [lcells_cons, show (y :: r).set (k + 1) (c3 x) = y :: r.set k (c3 x) from rfl, lcells_cons, ← ih (by simpa using h), show (k + 1) * 4 + 2 = (k * 4 + 2) + 1 + 1 + 1 + 1 by omega]
      simp only [List.set_cons_succ]

set_option maxRecDepth 100000 in
set_option maxHeartbeats 16000000 in
theorem change1_i (A : Option Addr) (c N : Nat) (L : List En) (base : Nat) (v : Value) (S : List Lb4) (w : World) (h : RdE w A L) (hn : L.length = N) (hm : N ≤ 8) (hv : w.ownsRow base 53 4 v N (lcells S)) (hz : ∀ x ∈ L, x.sz ≤ 1048576) (hok : ∀ x ∈ L, okE x = true) (hw : okS S) (hcp : Cap L) (ht : Tab w) (hmn : Mon w) :
    Calls Tryz.prog 61 #[.agg #[.slice A N c], v, .func (.func 81) #[] #[]] w fun e w' => ∃ v', e = .returned v' ∧ w'.ownsRow w.heap.size 53 4 v' N (lcells (rnd c1 L S)) ∧ Kp w w' := by
  obtain ⟨Bv, cv, rfl, hSl, hSr, _⟩ := own_rdl hv
  have hb0 : Kp w (w.alloc (.cells #[.slice A N c] 33)) := kal (kre _) _
  have hc0 := (box1 w (.slice A N c) 33).1
  have hs0 : w.heap.size < (w.alloc (.cells #[.slice A N c] 33)).heap.size := by simp
  have HCl := Lib.hid (clone_i base (.slice Bv N cv) N S _ (own_kp hv hb0) hm)
  have HT1 := Lib.hid (fun W (k : Kp w W) => texts_i A c N L Bv cv S W (h.below k) hn hm (hSr.below k) hSl hz hok hw hcp (ht.below k) (hmn.below k))
  have HT2 := Lib.hid (fun B c' W (k : Kp w W) (hM : RdL W B (S.map c1)) => texts_i A c N L B c' (S.map c1) W (h.below k) hn hm hM (by rw [List.length_map]; exact hSl) hz hok (okS_map wrt_c1 hw) hcp (ht.below k) (hmn.below k))
  have HSr := Lib.hid (fun W (k : Kp w W) => hSr.below k)
  have HSl := Lib.hid hSl
  have HMl : Hid ((S.map c1).length = N) := Lib.hid (by rw [List.length_map]; exact hSl)
  have HLb : Hid ((txs L S).length = N) := Lib.hid (txs_len hn hSl)
  have HLa : Hid ((txs L (S.map c1)).length = N) := Lib.hid (txs_len hn HMl.out)
  have HRn := Lib.hid (fun i x (h : S[i]? = some x) => rnd_at (c := c1) (L := L) h)
  have HRl : Hid ((rnd c1 L S).length = N) := Lib.hid (by rw [rnd_len]; exact hSl)
  unfold TxP at HT1 HT2
  rw [HLb.out] at HT1
  rw [HLa.out] at HT2
  generalize txs L S = TB at *
  generalize txs L (S.map c1) = TA at *
  generalize rnd c1 L S = R at *
  clear h hn hv hz hok hw hcp ht hmn hSl hSr
  go_enter Tryz.func61, Tryz.ntmps61
  go_wp2_with fail
  generalize w.alloc (.cells #[.slice A N c] 33) = w0 at hb0 hc0 hs0 HCl ⊢
  have HC : Hid (∀ W, Kp w0 W → W.cell? ⟨w.heap.size, 0, none⟩ = some (.slice A N c)) := Lib.hid (fun W h => (h.cell (p := ⟨w.heap.size, 0, none⟩) hs0).trans hc0)
  clear hc0
  refine HCl.out.mono ?_
  rintro e w1 ⟨v', rfl, o1, b1⟩
  obtain ⟨A', cap, rfl, HAd⟩ : ∃ A' cap, v' = .slice A' N cap ∧ (0 < N → ∃ g, A' = some ⟨g, 0, none⟩) := by
    rcases o1.2 with ⟨rfl, hN⟩ | ⟨g, cap, cur, rfl, -⟩
    · exact ⟨none, 0, by rw [hN], fun h => by omega⟩
    · exact ⟨_, cap, rfl, fun _ => ⟨g, rfl⟩⟩
  have HAd := Lib.hid HAd
  have HO1 := Lib.hid o1
  have hb1 : Kp w0 w1 := b1
  clear HCl o1 b1
  go_wp2_with fail
  go_loopw [16] (fun i wr => ∃ k : Nat, k ≤ N ∧ i = .int .i64 k ∧ Hid (wr.ownsRow w0.heap.size 53 4 (.slice A' N cap) N (lcells ((S.map c1).take k ++ S.drop k))) ∧ Kp w0 wr) (fun i _ => N - (intOf i).toNat)
  case atStart => exact ⟨0, Nat.zero_le _, rfl, Lib.hid (by simpa using HO1.out), hb1⟩
  case round =>
    obtain ⟨k, hk, rfl, HO, kw⟩ := hrel
    by_cases hlt : k < N
    · obtain ⟨g, rfl⟩ := HAd.out (by omega)
      obtain ⟨x, hx⟩ : ∃ x, S[k]? = some x := ⟨_, List.getElem?_eq_getElem (by rw [HSl.out]; exact hlt)⟩
      have ho := HO.out
      have hpl : (lcells ((S.map c1).take k ++ S.drop k)).length = N * 4 := by rw [lcells_len, mix_len HMl.out HSl.out hk]
      have f0 := World.ownsRow.frozenAt ho (k * 4 + 1)
      obtain ⟨u0, v0⟩ : ∃ u, wr.cell? ⟨g, k * 4 + 1, none⟩ = some u := by rw [World.ownsRow.cellAt ho (k * 4 + 1) (by omega)]; exact ⟨_, List.getElem?_eq_getElem (by omega)⟩
      have s1 := ho.stored (k * 4 + 1) (.int .i64 4)
      have hx2 : ((S.map c1).take k ++ S.drop k)[k]? = some x := by rw [mix_at (by rw [HMl.out, HSl.out]) (by rw [HSl.out]; exact hlt)]; exact hx
      have hx3 : (S.map c1)[k]? = some (c1 x) := by rw [List.getElem?_map, hx]; rfl
      rw [lset1 hx2, mix_set hx3 (by rw [HSl.out]; exact hlt) (by rw [HMl.out]; omega)] at s1
      have HS1 := Lib.hid s1.1
      have HK1 : Hid (Kp w0 (wr.setCell ⟨g, k * 4 + 1, none⟩ (.int .i64 4))) := Lib.hid (kgr kw s1.2 (fun j hj => (ho.lt j hj).1))
      have HCall := Lib.hid (clo1_i g (k * 4) u0 wr v0 f0)
      have hkI : (k : Int) < (N : Int) := by omega
      have hk0 : (0 : Int) ≤ (k : Int) := by omega
      clear s1 ho hpl hx hx2 hx3 f0 v0 HO
      go_wp2_with fail
      refine HCall.out.mono ?_
      rintro e w2 ⟨rfl, rfl⟩
      go_wp2_with fail
      go_roundw
      case rel => exact ⟨k + 1, by omega, by go_num, HS1, HK1.out⟩
      case measure => simp [intOf]; omega
    · obtain rfl : k = N := by omega
      have HM : Hid ((S.map c1).take k ++ S.drop k = S.map c1) := Lib.hid (by rw [List.take_of_length_le (by rw [HMl.out]; exact Nat.le_refl _), List.drop_eq_nil_of_le (by rw [HSl.out]; exact Nat.le_refl _), List.append_nil])
      have ho := HO.out
      rw [HM.out] at ho
      have HOm := Lib.hid ho
      have HStr : Hid (∀ W, Kept wr W → (W.cell? ⟨w.heap.size, 0, none⟩ = some (.slice A k c) ∧ Kept wr W)) := Lib.hid (fun W h => ⟨HC.out W (ktr kw h), h⟩)
      have HKr := Lib.hid (Kept.drew wr)
      have HKw : Hid (Kp w wr.drew) := Lib.hid (ktr hb0 (ktr kw HKr.out))
      clear ho HO HM
      go_wp2_with fail
      go_region_held3 (fun W => W.cell? ⟨w.heap.size, 0, none⟩ = some (.slice A k c) ∧ Kept wr W)
        (first | exact HStr.out _ HKr.out | exact HStr.out _ (by assumption))
        (first
          | (go_at_call 33; (with_reducible refine (HT1.out _ HKw.out).mono ?_); rintro e w5 ⟨vb, rfl, ob, b5⟩; have hk5 : Kept wr w5 := ktr HKr.out b5; have hk5w : Kp w w5 := ktr HKw.out b5; have hr5 := own_rd (own_kp HOm.out hk5))
          | (go_at_call 33; (with_reducible refine (HT2.out _ _ _ hk5w hr5).mono ?_); rintro e w6 ⟨va, rfl, oa, b6⟩; have hk6 : Kept wr w6 := ktr hk5 b6)
          | fail)
      (try clear hHeld)
      obtain ⟨A6, c6, hvb, -, -, -⟩ := own_rds ob
      subst hvb
      obtain ⟨A7, c7, hva, -, -, -⟩ := own_rds oa
      subst hva
      have HLB := Lib.hid ob.lt
      have HLA := Lib.hid oa.lt
      obtain ⟨bs, hbs⟩ : ∃ n, n = wr.heap.size := ⟨_, rfl⟩
      have HW56 : Hid (bs ≤ w5.heap.size) := Lib.hid (by rw [hbs]; exact ksz hk5)
      have HGl : Hid (∀ g, A' = some ⟨g, 0, none⟩ → g < bs) := Lib.hid (fun g hg => by rw [hbs]; exact (HOm.out.lt g (by rw [hg]; rfl)).2)
      have HB6 : Hid (w6.ownsRow bs 9 1 (.slice A6 k c6) k (TB.map Value.string)) := Lib.hid (Cs.row_base (by rw [hbs]; exact Nat.le_refl _) (own_kp ob b6))
      have HA6 := Lib.hid oa
      have HO6 : Hid (w6.ownsRow w0.heap.size 53 4 (.slice A' k cap) k (lcells (R.take 0 ++ (S.map c1).drop 0))) := Lib.hid (by simpa using own_kp HOm.out hk6)
      have hk06 : Kp w0 w6 := ktr kw hk6
      clear HStr HKr HKw ob oa b5 b6 hk5w hr5 HT1 HT2 hk5 hk6 hbs
      go_wp2_with fail
      go_loopw [33] (fun i wx => ∃ q : Nat, q ≤ k ∧ i = .int .i64 q ∧ Hid (wx.ownsRow w0.heap.size 53 4 (.slice A' k cap) k (lcells (R.take q ++ (S.map c1).drop q))) ∧ Kp w0 wx ∧ Hid (wx.ownsRow bs 9 1 (.slice A6 k c6) k (TB.map Value.string)) ∧ Hid (wx.ownsRow w5.heap.size 9 1 (.slice A7 k c7) k (TA.map Value.string))) (fun i _ => k - (intOf i).toNat)
      case atStart => exact ⟨0, Nat.zero_le _, rfl, HO6, hk06, HB6, HA6⟩
      case round =>
        obtain ⟨q, hq, rfl, HO, kx, HB, HA⟩ := hrel
        by_cases hlt : q < k
        · obtain ⟨g, rfl⟩ := HAd.out (by omega)
          have hgb := HGl.out g rfl
          obtain ⟨x, hx⟩ : ∃ x, S[q]? = some x := ⟨_, List.getElem?_eq_getElem (by rw [HSl.out]; exact hlt)⟩
          have hRx := HRn.out q x hx
          have hMx : (S.map c1)[q]? = some (c1 x) := by rw [List.getElem?_map, hx]; rfl
          obtain ⟨_, _, e6, -, r6, -⟩ := own_rds HB.out
          cases e6
          obtain ⟨_, _, e7, -, r7, -⟩ := own_rds HA.out
          cases e7
          have HTo := Lib.hid (fun (W : World) (kk : Kp wr W) => told_i A6 c6 A7 c7 k q TB TA W (rds_kp r6 kk) (rds_kp r7 kk) HLb.out HLa.out hlt hm)
          have HX := Lib.hid hx
          have hqI : (q : Int) < (k : Int) := by omega
          have hq0 : (0 : Int) ≤ (q : Int) := by omega
          clear r6 r7 hx
          cases htd : told TB TA q with
          | true =>
            rw [htd] at hRx HTo
            have HE : Hid (R.take q ++ (S.map c1).drop q = R.take (q + 1) ++ (S.map c1).drop (q + 1)) := Lib.hid (mix_keep (by rw [hRx]; rfl) hMx)
            clear hRx hMx htd
            go_wp2_with fail
            refine (HTo.out _ (kre _)).mono ?_
            rintro e w8 ⟨rfl, b8⟩
            have HO8 : Hid (w8.ownsRow w0.heap.size 53 4 (.slice (some ⟨g, 0, none⟩) k cap) k (lcells (R.take (q + 1) ++ (S.map c1).drop (q + 1)))) := Lib.hid (by rw [← HE.out]; exact own_kp HO.out b8)
            have HB8 := Lib.hid (own_kp HB.out b8)
            have HA8 := Lib.hid (own_kp HA.out b8)
            have k8 := ktr kx b8
            clear b8
            go_wp2_with fail
            go_roundw
            case rel => exact ⟨q + 1, by omega, by go_num, HO8, k8, HB8, HA8⟩
            case measure => simp [intOf]; omega
          | false =>
            rw [htd] at hRx HTo
            have hRx2 : R[q]? = some x := by rw [hRx]; rfl
            clear hRx htd
            go_wp2_with fail
            refine (HTo.out _ (kre _)).mono ?_
            rintro e w8 ⟨rfl, b8⟩
            have k8 := ktr kx b8
            have ho := own_kp HO.out b8
            have hB8 := own_kp HB.out b8
            have hA8 := own_kp HA.out b8
            obtain ⟨gs, os, rfl, hgs, z0, z1, z2, z3⟩ := (HSr.out _ (ktr hb0 k8)) q x HX.out
            have hpl : (lcells (R.take q ++ (S.map c1).drop q)).length = k * 4 := by rw [lcells_len, mix_len HRl.out HMl.out hq]
            have f0 := World.ownsRow.frozenAt ho (q * 4)
            have f1 := World.ownsRow.frozenAt ho (q * 4 + 1)
            have f2 := World.ownsRow.frozenAt ho (q * 4 + 2)
            have f3 := World.ownsRow.frozenAt ho (q * 4 + 3)
            obtain ⟨y0, v0⟩ : ∃ u, w8.cell? ⟨g, q * 4, none⟩ = some u := by rw [World.ownsRow.cellAt ho (q * 4) (by omega)]; exact ⟨_, List.getElem?_eq_getElem (by omega)⟩
            obtain ⟨y1, v1⟩ : ∃ u, w8.cell? ⟨g, q * 4 + 1, none⟩ = some u := by rw [World.ownsRow.cellAt ho (q * 4 + 1) (by omega)]; exact ⟨_, List.getElem?_eq_getElem (by omega)⟩
            obtain ⟨y2, v2⟩ : ∃ u, w8.cell? ⟨g, q * 4 + 2, none⟩ = some u := by rw [World.ownsRow.cellAt ho (q * 4 + 2) (by omega)]; exact ⟨_, List.getElem?_eq_getElem (by omega)⟩
            obtain ⟨y3, v3⟩ : ∃ u, w8.cell? ⟨g, q * 4 + 3, none⟩ = some u := by rw [World.ownsRow.cellAt ho (q * 4 + 3) (by omega)]; exact ⟨_, List.getElem?_eq_getElem (by omega)⟩
            have s1 := ho.stored (q * 4) (.string x.k)
            have s2 := s1.1.stored (q * 4 + 1) (.int .i64 x.n)
            have s3 := s2.1.stored (q * 4 + 2) (.int .i64 x.d)
            have s4 := s3.1.stored (q * 4 + 3) (.int .i64 x.t)
            have hset := lcells_set (L := R.take q ++ (S.map c1).drop q) (k := q) x (by rw [mix_len HRl.out HMl.out hq]; exact hlt)
            rw [mix_set hRx2 (by rw [HMl.out]; exact hlt) (by rw [HRl.out]; omega)] at hset
            have HS4 := Lib.hid s4.1
            rw [hset] at HS4
            have hneB : (Value.slice A6 k c6).ownBlock ≠ some g := fun e => by have := (hB8.lt g e).1; omega
            have hneA : (Value.slice A7 k c7).ownBlock ≠ some g := fun e => by have := (hA8.lt g e).1; have := HW56.out; omega
            have HB9 := Lib.hid (own_far (own_far (own_far (own_far hB8 s1.2 hneB) s2.2 hneB) s3.2 hneB) s4.2 hneB)
            have HA9 := Lib.hid (own_far (own_far (own_far (own_far hA8 s1.2 hneA) s2.2 hneA) s3.2 hneA) s4.2 hneA)
            have hrow : ∀ j, (Value.slice (some ⟨g, 0, none⟩) k cap).ownBlock = some j → w0.heap.size ≤ j := fun j hj => (ho.lt j hj).1
            have HK9 := Lib.hid (kgr (kgr (kgr (kgr k8 s1.2 hrow) s2.2 hrow) s3.2 hrow) s4.2 hrow)
            obtain ⟨xk, xn, xd, xt⟩ := x
            dsimp only at z0 z1 z2 z3 HS4 HB9 HA9 HK9
            clear s1 s2 s3 s4 hset ho hB8 hA8 hpl hneB hneA hrow b8 hMx hRx2
            go_wp2_with fail
            go_roundw
            case rel => exact ⟨q + 1, by omega, by go_num, HS4, HK9.out, HB9, HA9⟩
            case measure => simp [intOf]; omega
        · obtain rfl : q = k := by omega
          have HR : Hid (R.take q ++ (S.map c1).drop q = R) := Lib.hid (by rw [List.take_of_length_le (by rw [HRl.out]; exact Nat.le_refl _), List.drop_eq_nil_of_le (by rw [HMl.out]; exact Nat.le_refl _), List.append_nil])
          have ho := HO.out
          rw [HR.out] at ho
          have HOf := Lib.hid (Cs.row_base (Nat.le_of_lt hs0) ho)
          have hkf := ktr hb0 kx
          clear ho HO HB HA
          go_wp2_with fail
          go_ret
          exact ⟨_, rfl, HOf.out, hkf⟩

set_option maxRecDepth 100000 in
set_option maxHeartbeats 16000000 in
theorem change2_i (A : Option Addr) (c N : Nat) (L : List En) (base : Nat) (v : Value) (S : List Lb4) (w : World) (h : RdE w A L) (hn : L.length = N) (hm : N ≤ 8) (hv : w.ownsRow base 53 4 v N (lcells S)) (hz : ∀ x ∈ L, x.sz ≤ 1048576) (hok : ∀ x ∈ L, okE x = true) (hw : okS S) (hcp : Cap L) (ht : Tab w) (hmn : Mon w) :
    Calls Tryz.prog 61 #[.agg #[.slice A N c], v, .func (.func 82) #[] #[]] w fun e w' => ∃ v', e = .returned v' ∧ w'.ownsRow w.heap.size 53 4 v' N (lcells (rnd c2 L S)) ∧ Kp w w' := by
  obtain ⟨Bv, cv, rfl, hSl, hSr, _⟩ := own_rdl hv
  have hb0 : Kp w (w.alloc (.cells #[.slice A N c] 33)) := kal (kre _) _
  have hc0 := (box1 w (.slice A N c) 33).1
  have hs0 : w.heap.size < (w.alloc (.cells #[.slice A N c] 33)).heap.size := by simp
  have HCl := Lib.hid (clone_i base (.slice Bv N cv) N S _ (own_kp hv hb0) hm)
  have HT1 := Lib.hid (fun W (k : Kp w W) => texts_i A c N L Bv cv S W (h.below k) hn hm (hSr.below k) hSl hz hok hw hcp (ht.below k) (hmn.below k))
  have HT2 := Lib.hid (fun B c' W (k : Kp w W) (hM : RdL W B (S.map c2)) => texts_i A c N L B c' (S.map c2) W (h.below k) hn hm hM (by rw [List.length_map]; exact hSl) hz hok (okS_map wrt_c2 hw) hcp (ht.below k) (hmn.below k))
  have HSr := Lib.hid (fun W (k : Kp w W) => hSr.below k)
  have HSl := Lib.hid hSl
  have HMl : Hid ((S.map c2).length = N) := Lib.hid (by rw [List.length_map]; exact hSl)
  have HLb : Hid ((txs L S).length = N) := Lib.hid (txs_len hn hSl)
  have HLa : Hid ((txs L (S.map c2)).length = N) := Lib.hid (txs_len hn HMl.out)
  have HRn := Lib.hid (fun i x (h : S[i]? = some x) => rnd_at (c := c2) (L := L) h)
  have HRl : Hid ((rnd c2 L S).length = N) := Lib.hid (by rw [rnd_len]; exact hSl)
  unfold TxP at HT1 HT2
  rw [HLb.out] at HT1
  rw [HLa.out] at HT2
  generalize txs L S = TB at *
  generalize txs L (S.map c2) = TA at *
  generalize rnd c2 L S = R at *
  clear h hn hv hz hok hw hcp ht hmn hSl hSr
  go_enter Tryz.func61, Tryz.ntmps61
  go_wp2_with fail
  generalize w.alloc (.cells #[.slice A N c] 33) = w0 at hb0 hc0 hs0 HCl ⊢
  have HC : Hid (∀ W, Kp w0 W → W.cell? ⟨w.heap.size, 0, none⟩ = some (.slice A N c)) := Lib.hid (fun W h => (h.cell (p := ⟨w.heap.size, 0, none⟩) hs0).trans hc0)
  clear hc0
  refine HCl.out.mono ?_
  rintro e w1 ⟨v', rfl, o1, b1⟩
  obtain ⟨A', cap, rfl, HAd⟩ : ∃ A' cap, v' = .slice A' N cap ∧ (0 < N → ∃ g, A' = some ⟨g, 0, none⟩) := by
    rcases o1.2 with ⟨rfl, hN⟩ | ⟨g, cap, cur, rfl, -⟩
    · exact ⟨none, 0, by rw [hN], fun h => by omega⟩
    · exact ⟨_, cap, rfl, fun _ => ⟨g, rfl⟩⟩
  have HAd := Lib.hid HAd
  have HO1 := Lib.hid o1
  have hb1 : Kp w0 w1 := b1
  clear HCl o1 b1
  go_wp2_with fail
  go_loopw [16] (fun i wr => ∃ k : Nat, k ≤ N ∧ i = .int .i64 k ∧ Hid (wr.ownsRow w0.heap.size 53 4 (.slice A' N cap) N (lcells ((S.map c2).take k ++ S.drop k))) ∧ Kp w0 wr) (fun i _ => N - (intOf i).toNat)
  case atStart => exact ⟨0, Nat.zero_le _, rfl, Lib.hid (by simpa using HO1.out), hb1⟩
  case round =>
    obtain ⟨k, hk, rfl, HO, kw⟩ := hrel
    by_cases hlt : k < N
    · obtain ⟨g, rfl⟩ := HAd.out (by omega)
      obtain ⟨x, hx⟩ : ∃ x, S[k]? = some x := ⟨_, List.getElem?_eq_getElem (by rw [HSl.out]; exact hlt)⟩
      have ho := HO.out
      have hpl : (lcells ((S.map c2).take k ++ S.drop k)).length = N * 4 := by rw [lcells_len, mix_len HMl.out HSl.out hk]
      have f0 := World.ownsRow.frozenAt ho (k * 4 + 2)
      obtain ⟨u0, v0⟩ : ∃ u, wr.cell? ⟨g, k * 4 + 2, none⟩ = some u := by rw [World.ownsRow.cellAt ho (k * 4 + 2) (by omega)]; exact ⟨_, List.getElem?_eq_getElem (by omega)⟩
      have s1 := ho.stored (k * 4 + 2) (.int .i64 2)
      have hx2 : ((S.map c2).take k ++ S.drop k)[k]? = some x := by rw [mix_at (by rw [HMl.out, HSl.out]) (by rw [HSl.out]; exact hlt)]; exact hx
      have hx3 : (S.map c2)[k]? = some (c2 x) := by rw [List.getElem?_map, hx]; rfl
      rw [lset2 hx2, mix_set hx3 (by rw [HSl.out]; exact hlt) (by rw [HMl.out]; omega)] at s1
      have HS1 := Lib.hid s1.1
      have HK1 : Hid (Kp w0 (wr.setCell ⟨g, k * 4 + 2, none⟩ (.int .i64 2))) := Lib.hid (kgr kw s1.2 (fun j hj => (ho.lt j hj).1))
      have HCall := Lib.hid (clo2_i g (k * 4) u0 wr v0 f0)
      have hkI : (k : Int) < (N : Int) := by omega
      have hk0 : (0 : Int) ≤ (k : Int) := by omega
      clear s1 ho hpl hx hx2 hx3 f0 v0 HO
      go_wp2_with fail
      refine HCall.out.mono ?_
      rintro e w2 ⟨rfl, rfl⟩
      go_wp2_with fail
      go_roundw
      case rel => exact ⟨k + 1, by omega, by go_num, HS1, HK1.out⟩
      case measure => simp [intOf]; omega
    · obtain rfl : k = N := by omega
      have HM : Hid ((S.map c2).take k ++ S.drop k = S.map c2) := Lib.hid (by rw [List.take_of_length_le (by rw [HMl.out]; exact Nat.le_refl _), List.drop_eq_nil_of_le (by rw [HSl.out]; exact Nat.le_refl _), List.append_nil])
      have ho := HO.out
      rw [HM.out] at ho
      have HOm := Lib.hid ho
      have HStr : Hid (∀ W, Kept wr W → (W.cell? ⟨w.heap.size, 0, none⟩ = some (.slice A k c) ∧ Kept wr W)) := Lib.hid (fun W h => ⟨HC.out W (ktr kw h), h⟩)
      have HKr := Lib.hid (Kept.drew wr)
      have HKw : Hid (Kp w wr.drew) := Lib.hid (ktr hb0 (ktr kw HKr.out))
      clear ho HO HM
      go_wp2_with fail
      go_region_held3 (fun W => W.cell? ⟨w.heap.size, 0, none⟩ = some (.slice A k c) ∧ Kept wr W)
        (first | exact HStr.out _ HKr.out | exact HStr.out _ (by assumption))
        (first
          | (go_at_call 33; (with_reducible refine (HT1.out _ HKw.out).mono ?_); rintro e w5 ⟨vb, rfl, ob, b5⟩; have hk5 : Kept wr w5 := ktr HKr.out b5; have hk5w : Kp w w5 := ktr HKw.out b5; have hr5 := own_rd (own_kp HOm.out hk5))
          | (go_at_call 33; (with_reducible refine (HT2.out _ _ _ hk5w hr5).mono ?_); rintro e w6 ⟨va, rfl, oa, b6⟩; have hk6 : Kept wr w6 := ktr hk5 b6)
          | fail)
      (try clear hHeld)
      obtain ⟨A6, c6, hvb, -, -, -⟩ := own_rds ob
      subst hvb
      obtain ⟨A7, c7, hva, -, -, -⟩ := own_rds oa
      subst hva
      have HLB := Lib.hid ob.lt
      have HLA := Lib.hid oa.lt
      obtain ⟨bs, hbs⟩ : ∃ n, n = wr.heap.size := ⟨_, rfl⟩
      have HW56 : Hid (bs ≤ w5.heap.size) := Lib.hid (by rw [hbs]; exact ksz hk5)
      have HGl : Hid (∀ g, A' = some ⟨g, 0, none⟩ → g < bs) := Lib.hid (fun g hg => by rw [hbs]; exact (HOm.out.lt g (by rw [hg]; rfl)).2)
      have HB6 : Hid (w6.ownsRow bs 9 1 (.slice A6 k c6) k (TB.map Value.string)) := Lib.hid (Cs.row_base (by rw [hbs]; exact Nat.le_refl _) (own_kp ob b6))
      have HA6 := Lib.hid oa
      have HO6 : Hid (w6.ownsRow w0.heap.size 53 4 (.slice A' k cap) k (lcells (R.take 0 ++ (S.map c2).drop 0))) := Lib.hid (by simpa using own_kp HOm.out hk6)
      have hk06 : Kp w0 w6 := ktr kw hk6
      clear HStr HKr HKw ob oa b5 b6 hk5w hr5 HT1 HT2 hk5 hk6 hbs
      go_wp2_with fail
      go_loopw [33] (fun i wx => ∃ q : Nat, q ≤ k ∧ i = .int .i64 q ∧ Hid (wx.ownsRow w0.heap.size 53 4 (.slice A' k cap) k (lcells (R.take q ++ (S.map c2).drop q))) ∧ Kp w0 wx ∧ Hid (wx.ownsRow bs 9 1 (.slice A6 k c6) k (TB.map Value.string)) ∧ Hid (wx.ownsRow w5.heap.size 9 1 (.slice A7 k c7) k (TA.map Value.string))) (fun i _ => k - (intOf i).toNat)
      case atStart => exact ⟨0, Nat.zero_le _, rfl, HO6, hk06, HB6, HA6⟩
      case round =>
        obtain ⟨q, hq, rfl, HO, kx, HB, HA⟩ := hrel
        by_cases hlt : q < k
        · obtain ⟨g, rfl⟩ := HAd.out (by omega)
          have hgb := HGl.out g rfl
          obtain ⟨x, hx⟩ : ∃ x, S[q]? = some x := ⟨_, List.getElem?_eq_getElem (by rw [HSl.out]; exact hlt)⟩
          have hRx := HRn.out q x hx
          have hMx : (S.map c2)[q]? = some (c2 x) := by rw [List.getElem?_map, hx]; rfl
          obtain ⟨_, _, e6, -, r6, -⟩ := own_rds HB.out
          cases e6
          obtain ⟨_, _, e7, -, r7, -⟩ := own_rds HA.out
          cases e7
          have HTo := Lib.hid (fun (W : World) (kk : Kp wr W) => told_i A6 c6 A7 c7 k q TB TA W (rds_kp r6 kk) (rds_kp r7 kk) HLb.out HLa.out hlt hm)
          have HX := Lib.hid hx
          have hqI : (q : Int) < (k : Int) := by omega
          have hq0 : (0 : Int) ≤ (q : Int) := by omega
          clear r6 r7 hx
          cases htd : told TB TA q with
          | true =>
            rw [htd] at hRx HTo
            have HE : Hid (R.take q ++ (S.map c2).drop q = R.take (q + 1) ++ (S.map c2).drop (q + 1)) := Lib.hid (mix_keep (by rw [hRx]; rfl) hMx)
            clear hRx hMx htd
            go_wp2_with fail
            refine (HTo.out _ (kre _)).mono ?_
            rintro e w8 ⟨rfl, b8⟩
            have HO8 : Hid (w8.ownsRow w0.heap.size 53 4 (.slice (some ⟨g, 0, none⟩) k cap) k (lcells (R.take (q + 1) ++ (S.map c2).drop (q + 1)))) := Lib.hid (by rw [← HE.out]; exact own_kp HO.out b8)
            have HB8 := Lib.hid (own_kp HB.out b8)
            have HA8 := Lib.hid (own_kp HA.out b8)
            have k8 := ktr kx b8
            clear b8
            go_wp2_with fail
            go_roundw
            case rel => exact ⟨q + 1, by omega, by go_num, HO8, k8, HB8, HA8⟩
            case measure => simp [intOf]; omega
          | false =>
            rw [htd] at hRx HTo
            have hRx2 : R[q]? = some x := by rw [hRx]; rfl
            clear hRx htd
            go_wp2_with fail
            refine (HTo.out _ (kre _)).mono ?_
            rintro e w8 ⟨rfl, b8⟩
            have k8 := ktr kx b8
            have ho := own_kp HO.out b8
            have hB8 := own_kp HB.out b8
            have hA8 := own_kp HA.out b8
            obtain ⟨gs, os, rfl, hgs, z0, z1, z2, z3⟩ := (HSr.out _ (ktr hb0 k8)) q x HX.out
            have hpl : (lcells (R.take q ++ (S.map c2).drop q)).length = k * 4 := by rw [lcells_len, mix_len HRl.out HMl.out hq]
            have f0 := World.ownsRow.frozenAt ho (q * 4)
            have f1 := World.ownsRow.frozenAt ho (q * 4 + 1)
            have f2 := World.ownsRow.frozenAt ho (q * 4 + 2)
            have f3 := World.ownsRow.frozenAt ho (q * 4 + 3)
            obtain ⟨y0, v0⟩ : ∃ u, w8.cell? ⟨g, q * 4, none⟩ = some u := by rw [World.ownsRow.cellAt ho (q * 4) (by omega)]; exact ⟨_, List.getElem?_eq_getElem (by omega)⟩
            obtain ⟨y1, v1⟩ : ∃ u, w8.cell? ⟨g, q * 4 + 1, none⟩ = some u := by rw [World.ownsRow.cellAt ho (q * 4 + 1) (by omega)]; exact ⟨_, List.getElem?_eq_getElem (by omega)⟩
            obtain ⟨y2, v2⟩ : ∃ u, w8.cell? ⟨g, q * 4 + 2, none⟩ = some u := by rw [World.ownsRow.cellAt ho (q * 4 + 2) (by omega)]; exact ⟨_, List.getElem?_eq_getElem (by omega)⟩
            obtain ⟨y3, v3⟩ : ∃ u, w8.cell? ⟨g, q * 4 + 3, none⟩ = some u := by rw [World.ownsRow.cellAt ho (q * 4 + 3) (by omega)]; exact ⟨_, List.getElem?_eq_getElem (by omega)⟩
            have s1 := ho.stored (q * 4) (.string x.k)
            have s2 := s1.1.stored (q * 4 + 1) (.int .i64 x.n)
            have s3 := s2.1.stored (q * 4 + 2) (.int .i64 x.d)
            have s4 := s3.1.stored (q * 4 + 3) (.int .i64 x.t)
            have hset := lcells_set (L := R.take q ++ (S.map c2).drop q) (k := q) x (by rw [mix_len HRl.out HMl.out hq]; exact hlt)
            rw [mix_set hRx2 (by rw [HMl.out]; exact hlt) (by rw [HRl.out]; omega)] at hset
            have HS4 := Lib.hid s4.1
            rw [hset] at HS4
            have hneB : (Value.slice A6 k c6).ownBlock ≠ some g := fun e => by have := (hB8.lt g e).1; omega
            have hneA : (Value.slice A7 k c7).ownBlock ≠ some g := fun e => by have := (hA8.lt g e).1; have := HW56.out; omega
            have HB9 := Lib.hid (own_far (own_far (own_far (own_far hB8 s1.2 hneB) s2.2 hneB) s3.2 hneB) s4.2 hneB)
            have HA9 := Lib.hid (own_far (own_far (own_far (own_far hA8 s1.2 hneA) s2.2 hneA) s3.2 hneA) s4.2 hneA)
            have hrow : ∀ j, (Value.slice (some ⟨g, 0, none⟩) k cap).ownBlock = some j → w0.heap.size ≤ j := fun j hj => (ho.lt j hj).1
            have HK9 := Lib.hid (kgr (kgr (kgr (kgr k8 s1.2 hrow) s2.2 hrow) s3.2 hrow) s4.2 hrow)
            obtain ⟨xk, xn, xd, xt⟩ := x
            dsimp only at z0 z1 z2 z3 HS4 HB9 HA9 HK9
            clear s1 s2 s3 s4 hset ho hB8 hA8 hpl hneB hneA hrow b8 hMx hRx2
            go_wp2_with fail
            go_roundw
            case rel => exact ⟨q + 1, by omega, by go_num, HS4, HK9.out, HB9, HA9⟩
            case measure => simp [intOf]; omega
        · obtain rfl : q = k := by omega
          have HR : Hid (R.take q ++ (S.map c2).drop q = R) := Lib.hid (by rw [List.take_of_length_le (by rw [HRl.out]; exact Nat.le_refl _), List.drop_eq_nil_of_le (by rw [HMl.out]; exact Nat.le_refl _), List.append_nil])
          have ho := HO.out
          rw [HR.out] at ho
          have HOf := Lib.hid (Cs.row_base (Nat.le_of_lt hs0) ho)
          have hkf := ktr hb0 kx
          clear ho HO HB HA
          go_wp2_with fail
          go_ret
          exact ⟨_, rfl, HOf.out, hkf⟩

set_option maxRecDepth 100000 in
set_option maxHeartbeats 16000000 in
theorem change3_i (A : Option Addr) (c N : Nat) (L : List En) (base : Nat) (v : Value) (S : List Lb4) (w : World) (h : RdE w A L) (hn : L.length = N) (hm : N ≤ 8) (hv : w.ownsRow base 53 4 v N (lcells S)) (hz : ∀ x ∈ L, x.sz ≤ 1048576) (hok : ∀ x ∈ L, okE x = true) (hw : okS S) (hcp : Cap L) (ht : Tab w) (hmn : Mon w) :
    Calls Tryz.prog 61 #[.agg #[.slice A N c], v, .func (.func 83) #[] #[]] w fun e w' => ∃ v', e = .returned v' ∧ w'.ownsRow w.heap.size 53 4 v' N (lcells (rnd c3 L S)) ∧ Kp w w' := by
  obtain ⟨Bv, cv, rfl, hSl, hSr, _⟩ := own_rdl hv
  have hb0 : Kp w (w.alloc (.cells #[.slice A N c] 33)) := kal (kre _) _
  have hc0 := (box1 w (.slice A N c) 33).1
  have hs0 : w.heap.size < (w.alloc (.cells #[.slice A N c] 33)).heap.size := by simp
  have HCl := Lib.hid (clone_i base (.slice Bv N cv) N S _ (own_kp hv hb0) hm)
  have HT1 := Lib.hid (fun W (k : Kp w W) => texts_i A c N L Bv cv S W (h.below k) hn hm (hSr.below k) hSl hz hok hw hcp (ht.below k) (hmn.below k))
  have HT2 := Lib.hid (fun B c' W (k : Kp w W) (hM : RdL W B (S.map c3)) => texts_i A c N L B c' (S.map c3) W (h.below k) hn hm hM (by rw [List.length_map]; exact hSl) hz hok (okS_map wrt_c3 hw) hcp (ht.below k) (hmn.below k))
  have HSr := Lib.hid (fun W (k : Kp w W) => hSr.below k)
  have HSl := Lib.hid hSl
  have HMl : Hid ((S.map c3).length = N) := Lib.hid (by rw [List.length_map]; exact hSl)
  have HLb : Hid ((txs L S).length = N) := Lib.hid (txs_len hn hSl)
  have HLa : Hid ((txs L (S.map c3)).length = N) := Lib.hid (txs_len hn HMl.out)
  have HRn := Lib.hid (fun i x (h : S[i]? = some x) => rnd_at (c := c3) (L := L) h)
  have HRl : Hid ((rnd c3 L S).length = N) := Lib.hid (by rw [rnd_len]; exact hSl)
  unfold TxP at HT1 HT2
  rw [HLb.out] at HT1
  rw [HLa.out] at HT2
  generalize txs L S = TB at *
  generalize txs L (S.map c3) = TA at *
  generalize rnd c3 L S = R at *
  clear h hn hv hz hok hw hcp ht hmn hSl hSr
  go_enter Tryz.func61, Tryz.ntmps61
  go_wp2_with fail
  generalize w.alloc (.cells #[.slice A N c] 33) = w0 at hb0 hc0 hs0 HCl ⊢
  have HC : Hid (∀ W, Kp w0 W → W.cell? ⟨w.heap.size, 0, none⟩ = some (.slice A N c)) := Lib.hid (fun W h => (h.cell (p := ⟨w.heap.size, 0, none⟩) hs0).trans hc0)
  clear hc0
  refine HCl.out.mono ?_
  rintro e w1 ⟨v', rfl, o1, b1⟩
  obtain ⟨A', cap, rfl, HAd⟩ : ∃ A' cap, v' = .slice A' N cap ∧ (0 < N → ∃ g, A' = some ⟨g, 0, none⟩) := by
    rcases o1.2 with ⟨rfl, hN⟩ | ⟨g, cap, cur, rfl, -⟩
    · exact ⟨none, 0, by rw [hN], fun h => by omega⟩
    · exact ⟨_, cap, rfl, fun _ => ⟨g, rfl⟩⟩
  have HAd := Lib.hid HAd
  have HO1 := Lib.hid o1
  have hb1 : Kp w0 w1 := b1
  clear HCl o1 b1
  go_wp2_with fail
  go_loopw [16] (fun i wr => ∃ k : Nat, k ≤ N ∧ i = .int .i64 k ∧ Hid (wr.ownsRow w0.heap.size 53 4 (.slice A' N cap) N (lcells ((S.map c3).take k ++ S.drop k))) ∧ Kp w0 wr) (fun i _ => N - (intOf i).toNat)
  case atStart => exact ⟨0, Nat.zero_le _, rfl, Lib.hid (by simpa using HO1.out), hb1⟩
  case round =>
    obtain ⟨k, hk, rfl, HO, kw⟩ := hrel
    by_cases hlt : k < N
    · obtain ⟨g, rfl⟩ := HAd.out (by omega)
      obtain ⟨x, hx⟩ : ∃ x, S[k]? = some x := ⟨_, List.getElem?_eq_getElem (by rw [HSl.out]; exact hlt)⟩
      have ho := HO.out
      have hpl : (lcells ((S.map c3).take k ++ S.drop k)).length = N * 4 := by rw [lcells_len, mix_len HMl.out HSl.out hk]
      have f0 := World.ownsRow.frozenAt ho (k * 4 + 2)
      obtain ⟨u0, v0⟩ : ∃ u, wr.cell? ⟨g, k * 4 + 2, none⟩ = some u := by rw [World.ownsRow.cellAt ho (k * 4 + 2) (by omega)]; exact ⟨_, List.getElem?_eq_getElem (by omega)⟩
      have s1 := ho.stored (k * 4 + 2) (.int .i64 3)
      have hx2 : ((S.map c3).take k ++ S.drop k)[k]? = some x := by rw [mix_at (by rw [HMl.out, HSl.out]) (by rw [HSl.out]; exact hlt)]; exact hx
      have hx3 : (S.map c3)[k]? = some (c3 x) := by rw [List.getElem?_map, hx]; rfl
      rw [lset3 hx2, mix_set hx3 (by rw [HSl.out]; exact hlt) (by rw [HMl.out]; omega)] at s1
      have HS1 := Lib.hid s1.1
      have HK1 : Hid (Kp w0 (wr.setCell ⟨g, k * 4 + 2, none⟩ (.int .i64 3))) := Lib.hid (kgr kw s1.2 (fun j hj => (ho.lt j hj).1))
      have HCall := Lib.hid (clo3_i g (k * 4) u0 wr v0 f0)
      have hkI : (k : Int) < (N : Int) := by omega
      have hk0 : (0 : Int) ≤ (k : Int) := by omega
      clear s1 ho hpl hx hx2 hx3 f0 v0 HO
      go_wp2_with fail
      refine HCall.out.mono ?_
      rintro e w2 ⟨rfl, rfl⟩
      go_wp2_with fail
      go_roundw
      case rel => exact ⟨k + 1, by omega, by go_num, HS1, HK1.out⟩
      case measure => simp [intOf]; omega
    · obtain rfl : k = N := by omega
      have HM : Hid ((S.map c3).take k ++ S.drop k = S.map c3) := Lib.hid (by rw [List.take_of_length_le (by rw [HMl.out]; exact Nat.le_refl _), List.drop_eq_nil_of_le (by rw [HSl.out]; exact Nat.le_refl _), List.append_nil])
      have ho := HO.out
      rw [HM.out] at ho
      have HOm := Lib.hid ho
      have HStr : Hid (∀ W, Kept wr W → (W.cell? ⟨w.heap.size, 0, none⟩ = some (.slice A k c) ∧ Kept wr W)) := Lib.hid (fun W h => ⟨HC.out W (ktr kw h), h⟩)
      have HKr := Lib.hid (Kept.drew wr)
      have HKw : Hid (Kp w wr.drew) := Lib.hid (ktr hb0 (ktr kw HKr.out))
      clear ho HO HM
      go_wp2_with fail
      go_region_held3 (fun W => W.cell? ⟨w.heap.size, 0, none⟩ = some (.slice A k c) ∧ Kept wr W)
        (first | exact HStr.out _ HKr.out | exact HStr.out _ (by assumption))
        (first
          | (go_at_call 33; (with_reducible refine (HT1.out _ HKw.out).mono ?_); rintro e w5 ⟨vb, rfl, ob, b5⟩; have hk5 : Kept wr w5 := ktr HKr.out b5; have hk5w : Kp w w5 := ktr HKw.out b5; have hr5 := own_rd (own_kp HOm.out hk5))
          | (go_at_call 33; (with_reducible refine (HT2.out _ _ _ hk5w hr5).mono ?_); rintro e w6 ⟨va, rfl, oa, b6⟩; have hk6 : Kept wr w6 := ktr hk5 b6)
          | fail)
      (try clear hHeld)
      obtain ⟨A6, c6, hvb, -, -, -⟩ := own_rds ob
      subst hvb
      obtain ⟨A7, c7, hva, -, -, -⟩ := own_rds oa
      subst hva
      have HLB := Lib.hid ob.lt
      have HLA := Lib.hid oa.lt
      obtain ⟨bs, hbs⟩ : ∃ n, n = wr.heap.size := ⟨_, rfl⟩
      have HW56 : Hid (bs ≤ w5.heap.size) := Lib.hid (by rw [hbs]; exact ksz hk5)
      have HGl : Hid (∀ g, A' = some ⟨g, 0, none⟩ → g < bs) := Lib.hid (fun g hg => by rw [hbs]; exact (HOm.out.lt g (by rw [hg]; rfl)).2)
      have HB6 : Hid (w6.ownsRow bs 9 1 (.slice A6 k c6) k (TB.map Value.string)) := Lib.hid (Cs.row_base (by rw [hbs]; exact Nat.le_refl _) (own_kp ob b6))
      have HA6 := Lib.hid oa
      have HO6 : Hid (w6.ownsRow w0.heap.size 53 4 (.slice A' k cap) k (lcells (R.take 0 ++ (S.map c3).drop 0))) := Lib.hid (by simpa using own_kp HOm.out hk6)
      have hk06 : Kp w0 w6 := ktr kw hk6
      clear HStr HKr HKw ob oa b5 b6 hk5w hr5 HT1 HT2 hk5 hk6 hbs
      go_wp2_with fail
      go_loopw [33] (fun i wx => ∃ q : Nat, q ≤ k ∧ i = .int .i64 q ∧ Hid (wx.ownsRow w0.heap.size 53 4 (.slice A' k cap) k (lcells (R.take q ++ (S.map c3).drop q))) ∧ Kp w0 wx ∧ Hid (wx.ownsRow bs 9 1 (.slice A6 k c6) k (TB.map Value.string)) ∧ Hid (wx.ownsRow w5.heap.size 9 1 (.slice A7 k c7) k (TA.map Value.string))) (fun i _ => k - (intOf i).toNat)
      case atStart => exact ⟨0, Nat.zero_le _, rfl, HO6, hk06, HB6, HA6⟩
      case round =>
        obtain ⟨q, hq, rfl, HO, kx, HB, HA⟩ := hrel
        by_cases hlt : q < k
        · obtain ⟨g, rfl⟩ := HAd.out (by omega)
          have hgb := HGl.out g rfl
          obtain ⟨x, hx⟩ : ∃ x, S[q]? = some x := ⟨_, List.getElem?_eq_getElem (by rw [HSl.out]; exact hlt)⟩
          have hRx := HRn.out q x hx
          have hMx : (S.map c3)[q]? = some (c3 x) := by rw [List.getElem?_map, hx]; rfl
          obtain ⟨_, _, e6, -, r6, -⟩ := own_rds HB.out
          cases e6
          obtain ⟨_, _, e7, -, r7, -⟩ := own_rds HA.out
          cases e7
          have HTo := Lib.hid (fun (W : World) (kk : Kp wr W) => told_i A6 c6 A7 c7 k q TB TA W (rds_kp r6 kk) (rds_kp r7 kk) HLb.out HLa.out hlt hm)
          have HX := Lib.hid hx
          have hqI : (q : Int) < (k : Int) := by omega
          have hq0 : (0 : Int) ≤ (q : Int) := by omega
          clear r6 r7 hx
          cases htd : told TB TA q with
          | true =>
            rw [htd] at hRx HTo
            have HE : Hid (R.take q ++ (S.map c3).drop q = R.take (q + 1) ++ (S.map c3).drop (q + 1)) := Lib.hid (mix_keep (by rw [hRx]; rfl) hMx)
            clear hRx hMx htd
            go_wp2_with fail
            refine (HTo.out _ (kre _)).mono ?_
            rintro e w8 ⟨rfl, b8⟩
            have HO8 : Hid (w8.ownsRow w0.heap.size 53 4 (.slice (some ⟨g, 0, none⟩) k cap) k (lcells (R.take (q + 1) ++ (S.map c3).drop (q + 1)))) := Lib.hid (by rw [← HE.out]; exact own_kp HO.out b8)
            have HB8 := Lib.hid (own_kp HB.out b8)
            have HA8 := Lib.hid (own_kp HA.out b8)
            have k8 := ktr kx b8
            clear b8
            go_wp2_with fail
            go_roundw
            case rel => exact ⟨q + 1, by omega, by go_num, HO8, k8, HB8, HA8⟩
            case measure => simp [intOf]; omega
          | false =>
            rw [htd] at hRx HTo
            have hRx2 : R[q]? = some x := by rw [hRx]; rfl
            clear hRx htd
            go_wp2_with fail
            refine (HTo.out _ (kre _)).mono ?_
            rintro e w8 ⟨rfl, b8⟩
            have k8 := ktr kx b8
            have ho := own_kp HO.out b8
            have hB8 := own_kp HB.out b8
            have hA8 := own_kp HA.out b8
            obtain ⟨gs, os, rfl, hgs, z0, z1, z2, z3⟩ := (HSr.out _ (ktr hb0 k8)) q x HX.out
            have hpl : (lcells (R.take q ++ (S.map c3).drop q)).length = k * 4 := by rw [lcells_len, mix_len HRl.out HMl.out hq]
            have f0 := World.ownsRow.frozenAt ho (q * 4)
            have f1 := World.ownsRow.frozenAt ho (q * 4 + 1)
            have f2 := World.ownsRow.frozenAt ho (q * 4 + 2)
            have f3 := World.ownsRow.frozenAt ho (q * 4 + 3)
            obtain ⟨y0, v0⟩ : ∃ u, w8.cell? ⟨g, q * 4, none⟩ = some u := by rw [World.ownsRow.cellAt ho (q * 4) (by omega)]; exact ⟨_, List.getElem?_eq_getElem (by omega)⟩
            obtain ⟨y1, v1⟩ : ∃ u, w8.cell? ⟨g, q * 4 + 1, none⟩ = some u := by rw [World.ownsRow.cellAt ho (q * 4 + 1) (by omega)]; exact ⟨_, List.getElem?_eq_getElem (by omega)⟩
            obtain ⟨y2, v2⟩ : ∃ u, w8.cell? ⟨g, q * 4 + 2, none⟩ = some u := by rw [World.ownsRow.cellAt ho (q * 4 + 2) (by omega)]; exact ⟨_, List.getElem?_eq_getElem (by omega)⟩
            obtain ⟨y3, v3⟩ : ∃ u, w8.cell? ⟨g, q * 4 + 3, none⟩ = some u := by rw [World.ownsRow.cellAt ho (q * 4 + 3) (by omega)]; exact ⟨_, List.getElem?_eq_getElem (by omega)⟩
            have s1 := ho.stored (q * 4) (.string x.k)
            have s2 := s1.1.stored (q * 4 + 1) (.int .i64 x.n)
            have s3 := s2.1.stored (q * 4 + 2) (.int .i64 x.d)
            have s4 := s3.1.stored (q * 4 + 3) (.int .i64 x.t)
            have hset := lcells_set (L := R.take q ++ (S.map c3).drop q) (k := q) x (by rw [mix_len HRl.out HMl.out hq]; exact hlt)
            rw [mix_set hRx2 (by rw [HMl.out]; exact hlt) (by rw [HRl.out]; omega)] at hset
            have HS4 := Lib.hid s4.1
            rw [hset] at HS4
            have hneB : (Value.slice A6 k c6).ownBlock ≠ some g := fun e => by have := (hB8.lt g e).1; omega
            have hneA : (Value.slice A7 k c7).ownBlock ≠ some g := fun e => by have := (hA8.lt g e).1; have := HW56.out; omega
            have HB9 := Lib.hid (own_far (own_far (own_far (own_far hB8 s1.2 hneB) s2.2 hneB) s3.2 hneB) s4.2 hneB)
            have HA9 := Lib.hid (own_far (own_far (own_far (own_far hA8 s1.2 hneA) s2.2 hneA) s3.2 hneA) s4.2 hneA)
            have hrow : ∀ j, (Value.slice (some ⟨g, 0, none⟩) k cap).ownBlock = some j → w0.heap.size ≤ j := fun j hj => (ho.lt j hj).1
            have HK9 := Lib.hid (kgr (kgr (kgr (kgr k8 s1.2 hrow) s2.2 hrow) s3.2 hrow) s4.2 hrow)
            obtain ⟨xk, xn, xd, xt⟩ := x
            dsimp only at z0 z1 z2 z3 HS4 HB9 HA9 HK9
            clear s1 s2 s3 s4 hset ho hB8 hA8 hpl hneB hneA hrow b8 hMx hRx2
            go_wp2_with fail
            go_roundw
            case rel => exact ⟨q + 1, by omega, by go_num, HS4, HK9.out, HB9, HA9⟩
            case measure => simp [intOf]; omega
        · obtain rfl : q = k := by omega
          have HR : Hid (R.take q ++ (S.map c3).drop q = R) := Lib.hid (by rw [List.take_of_length_le (by rw [HRl.out]; exact Nat.le_refl _), List.drop_eq_nil_of_le (by rw [HMl.out]; exact Nat.le_refl _), List.append_nil])
          have ho := HO.out
          rw [HR.out] at ho
          have HOf := Lib.hid (Cs.row_base (Nat.le_of_lt hs0) ho)
          have hkf := ktr hb0 kx
          clear ho HO HB HA
          go_wp2_with fail
          go_ret
          exact ⟨_, rfl, HOf.out, hkf⟩
end Go.Proofs.YteccmlpibbchbaaGreatDoor.Tdn
/-
  DisambiguateNames of the program.
-/
namespace Go.Proofs.YteccmlpibbchbaaGreatDoor.Tdn
open Go.ChangeShapes Go.WideShapes Go.ChangeAt Go.RowKit Go.Joins Go.Deep
open Pl Strs Help Name Stands SplitPl NmPl Word Part NGood Nms Jn Ens Lab Kpz Ce Rdf LdPl Lbs Lbr Cit
open Num (Tab Tab.below)
set_option linter.unusedSimpArgs false
set_option linter.unusedVariables false

/-- the labels ahead of each round -/
def stg (L : List En) (z : Int) : Nat → List Lb4
  | 0 => plL L z
  | 1 => rnd c1 L (plL L z)
  | 2 => rnd c2 L (rnd c1 L (plL L z))
  | _ => unl L z
theorem stg_len (L : List En) (z : Int) : ∀ k, (stg L z k).length = L.length
  | 0 => plL_len L z
  | 1 => by show (rnd c1 L (plL L z)).length = _; rw [rnd_len, plL_len]
  | 2 => by show (rnd c2 L (rnd c1 L (plL L z))).length = _; rw [rnd_len, rnd_len, plL_len]
  | _ + 3 => by show (rnd c3 L (rnd c2 L (rnd c1 L (plL L z)))).length = _; rw [rnd_len, rnd_len, rnd_len, plL_len]
theorem unl_len (L : List En) (z : Int) : (unl L z).length = L.length := stg_len L z 3
theorem stg_ok (L : List En) {z : Int} (h : 1 ≤ z ∧ z ≤ 4) : ∀ k, okS (stg L z k)
  | 0 => okS_plL L h
  | 1 => okS_rnd L wrt_c1 (okS_plL L h)
  | 2 => okS_rnd L wrt_c2 (okS_rnd L wrt_c1 (okS_plL L h))
  | _ + 3 => okS_rnd L wrt_c3 (okS_rnd L wrt_c2 (okS_rnd L wrt_c1 (okS_plL L h)))
set_option maxRecDepth 100000 in
theorem nc_i (w : World) :
    Calls Tryz.prog 60 #[] w fun e w' => ∃ b, e = .returned (.slice (some ⟨b, 0, none⟩) 3 3) ∧ b < w'.heap.size ∧ w'.cell? ⟨b, 0, none⟩ = some (.func (.func 81) #[] #[]) ∧ w'.cell? ⟨b, 1, none⟩ = some (.func (.func 82) #[] #[]) ∧ w'.cell? ⟨b, 2, none⟩ = some (.func (.func 83) #[] #[]) ∧ Kp w w' := by
  go_enter Tryz.func60, Tryz.ntmps60
  go_wp2_with fail
  go_ret
  exact ⟨_, rfl, by simp, by simp, by simp, by simp, kal (kre _) _⟩
set_option maxRecDepth 100000 in
set_option maxHeartbeats 8000000 in
theorem dis_i (A : Option Addr) (c N : Nat) (L : List En) (z : Int) (w : World) (h : RdE w A L) (hn : L.length = N) (hm : N ≤ 8) (hz : ∀ x ∈ L, x.sz ≤ 1048576) (hok : ∀ x ∈ L, okE x = true) (hzz : 1 ≤ z ∧ z ≤ 4) (hcp : Cap L) (ht : Tab w) (hmn : Mon w) :
    Calls Tryz.prog 44 #[.agg #[.slice A N c], .int .i64 z] w fun e w' => ∃ v, e = .returned v ∧ w'.ownsRow w.heap.size 53 4 v N (lcells (unl L z)) ∧ Kp w w' := by
  have hb0 : Kp w (w.alloc (.cells #[.slice A N c] 33)) := kal (kre _) _
  have hc0 := (box1 w (.slice A N c) 33).1
  have hs0 : w.heap.size < (w.alloc (.cells #[.slice A N c] 33)).heap.size := by simp
  have HP := Lib.hid (plain_i A c N L z _ (h.below hb0) hn (by omega))
  have HC1 := Lib.hid (fun base v W (k : Kp w W) hv => change1_i A c N L base v (stg L z 0) W (h.below k) hn hm hv hz hok (stg_ok L hzz 0) hcp (ht.below k) (hmn.below k))
  have HC2 := Lib.hid (fun base v W (k : Kp w W) hv => change2_i A c N L base v (stg L z 1) W (h.below k) hn hm hv hz hok (stg_ok L hzz 1) hcp (ht.below k) (hmn.below k))
  have HC3 := Lib.hid (fun base v W (k : Kp w W) hv => change3_i A c N L base v (stg L z 2) W (h.below k) hn hm hv hz hok (stg_ok L hzz 2) hcp (ht.below k) (hmn.below k))
  have HPe : Hid (plL L z = stg L z 0) := Lib.hid rfl
  have HC1e : Hid (rnd c1 L (stg L z 0) = stg L z 1) := Lib.hid rfl
  have HC2e : Hid (rnd c2 L (stg L z 1) = stg L z 2) := Lib.hid rfl
  have HC3e : Hid (rnd c3 L (stg L z 2) = stg L z 3) := Lib.hid rfl
  have HUe : Hid (unl L z = stg L z 3) := Lib.hid rfl
  rw [HPe.out] at HP
  rw [HC1e.out] at HC1
  rw [HC2e.out] at HC2
  rw [HC3e.out] at HC3
  rw [HUe.out]
  generalize stg L z = F at *
  clear h hn hz hok hcp ht hmn hzz
  go_enter Tryz.func44, Tryz.ntmps44
  go_wp2_with fail
  generalize w.alloc (.cells #[.slice A N c] 33) = w0 at hb0 hc0 hs0 HP ⊢
  have HC : Hid (∀ W, Kp w0 W → W.cell? ⟨w.heap.size, 0, none⟩ = some (.slice A N c)) := Lib.hid (fun W h => (h.cell (p := ⟨w.heap.size, 0, none⟩) hs0).trans hc0)
  clear hc0
  refine HP.out.mono ?_
  rintro e w1 ⟨v0, rfl, o1, b1⟩
  have k1 : Kp w0 w1 := b1
  have hc1 := HC.out _ k1
  have HO1 := Lib.hid o1
  clear o1 b1 HP
  go_wp2_with fail
  refine (nc_i w1).mono ?_
  rintro e w2 ⟨b, rfl, hb, d0, d1, d2, b2⟩
  have k2 := ktr k1 b2
  have HO2 := Lib.hid (own_kp HO1.out b2)
  have HD : Hid (∀ W, Kp w2 W → W.cell? ⟨b, 0, none⟩ = some (.func (.func 81) #[] #[]) ∧ W.cell? ⟨b, 1, none⟩ = some (.func (.func 82) #[] #[]) ∧ W.cell? ⟨b, 2, none⟩ = some (.func (.func 83) #[] #[])) := Lib.hid (fun W h => ⟨(h.cell (p := ⟨b, 0, none⟩) hb).trans d0, (h.cell (p := ⟨b, 1, none⟩) hb).trans d1, (h.cell (p := ⟨b, 2, none⟩) hb).trans d2⟩)
  clear hc1 HO1 d0 d1 d2 b2 hb k1
  have HK2 := Lib.hid k2
  clear k2
  go_wp2_with fail
  go_loopw [5, 13] (fun v i wr => ∃ k : Nat, k ≤ 3 ∧ i = .int .i64 k ∧ Hid (wr.ownsRow w0.heap.size 53 4 v N (lcells (F k))) ∧ Kp w2 wr) (fun _ i _ => 3 - (intOf i).toNat)
  case atStart => exact ⟨0, Nat.zero_le _, rfl, HO2, kre _⟩
  case round =>
    obtain ⟨k, hk, rfl, HO, kw⟩ := hrel
    have kw0 := ktr HK2.out kw
    have hcw := HC.out _ kw0
    obtain ⟨d0, d1, d2⟩ := HD.out _ kw
    have kww := ktr hb0 kw0
    rcases Nat.lt_or_ge k 3 with hlt | hge
    · match k, hlt with
      | 0, _ =>
        have HCc := Lib.hid (HC1.out _ _ wr kww HO.out)
        go_wp2_with fail
        refine HCc.out.mono ?_
        rintro e w4 ⟨v4, rfl, o4, b4⟩
        have HO4 := Lib.hid (Cs.row_base (ksz kw0) o4)
        have k4 := ktr kw b4
        clear o4 b4 HCc HO d0 d1 d2 hcw
        go_wp2_with fail
        go_roundw
        case rel => exact ⟨1, by omega, by go_num, HO4, k4⟩
        case measure => simp [intOf]
      | 1, _ =>
        have HCc := Lib.hid (HC2.out _ _ wr kww HO.out)
        go_wp2_with fail
        refine HCc.out.mono ?_
        rintro e w4 ⟨v4, rfl, o4, b4⟩
        have HO4 := Lib.hid (Cs.row_base (ksz kw0) o4)
        have k4 := ktr kw b4
        clear o4 b4 HCc HO d0 d1 d2 hcw
        go_wp2_with fail
        go_roundw
        case rel => exact ⟨2, by omega, by go_num, HO4, k4⟩
        case measure => simp [intOf]
      | 2, _ =>
        have HCc := Lib.hid (HC3.out _ _ wr kww HO.out)
        go_wp2_with fail
        refine HCc.out.mono ?_
        rintro e w4 ⟨v4, rfl, o4, b4⟩
        have HO4 := Lib.hid (Cs.row_base (ksz kw0) o4)
        have k4 := ktr kw b4
        clear o4 b4 HCc HO d0 d1 d2 hcw
        go_wp2_with fail
        go_roundw
        case rel => exact ⟨3, by omega, by go_num, HO4, k4⟩
        case measure => simp [intOf]
    · obtain rfl : k = 3 := by omega
      have HOf := Lib.hid (Cs.row_base (Nat.le_of_lt hs0) HO.out)
      clear HO d0 d1 d2
      go_wp2_with fail
      go_ret
      exact ⟨_, rfl, HOf.out, kww⟩
/-- what DisambiguateNames answers -/
def dnT (L : List En) (z : Int) : List Lb4 := if asked L z = true then unl L z else []
theorem dnT_len (L : List En) (z : Int) : (dnT L z).length ≤ L.length := by
  unfold dnT
  split
  · rw [unl_len]; exact Nat.le_refl _
  · exact Nat.zero_le _
theorem dnT_len4 (L : List En) (z : Int) : 1 + 4 * (dnT L z).length ≤ 4194304 :=
  len4_of (z := z) (dnT_len L z) (fun h => if_neg (by rw [h]; exact Bool.false_ne_true))
theorem txs_k {L M : List En} {w w' : World} {A B : Option Addr} (hL : RdE w A L) (hM : RdE w' B M) (h : L.map En.key4 = M.map En.key4) (S : List Lb4) : txs L S = txs M S := by
  unfold txs
  refine List.ext_getElem? fun i => ?_
  rw [List.getElem?_zipWith, List.getElem?_zipWith]
  cases e : L[i]? with
  | none =>
    have : M[i]? = none := by
      rw [List.getElem?_eq_none_iff] at e ⊢
      rw [← len_of_key4 h]; exact e
    rw [this]
  | some x =>
    obtain ⟨y, hy, e2⟩ := at_k h e
    rw [hy]
    cases S[i]? with
    | none => rfl
    | some l => simp only [ctS_kk (hL _ _ e).1 (hM _ _ hy).1 e2]
theorem unl_k {L M : List En} {w w' : World} {A B : Option Addr} (hL : RdE w A L) (hM : RdE w' B M) (h : L.map En.key4 = M.map En.key4) (z : Int) : unl L z = unl M z := by
  have hr : ∀ (c : Lb4 → Lb4) (S : List Lb4), rnd c L S = rnd c M S := fun c S => by
    unfold rnd
    rw [txs_k hL hM h, txs_k hL hM h]
  unfold unl
  rw [hr, hr, hr, plL_k z h]
theorem dnT_k {L M : List En} {w w' : World} {A B : Option Addr} (hL : RdE w A L) (hM : RdE w' B M) (h : L.map En.key4 = M.map En.key4) (z : Int) : dnT L z = dnT M z := by
  unfold dnT
  rw [asked_k z h, unl_k hL hM h]
def DnP (L : List En) (z : Int) (w : World) (e : Ending) (w' : World) : Prop := ∃ v, e = .returned (.tuple #[v, .bool (asked L z)]) ∧ w'.ownsRow w.heap.size 53 4 v (dnT L z).length (lcells (dnT L z)) ∧ Kp w w'
theorem asked_parts {L : List En} {z : Int} (h : asked L z = true) : okLib L = true ∧ (1 ≤ z ∧ z ≤ 4) := by
  unfold asked at h
  rw [Bool.and_eq_true, decide_eq_true_eq] at h
  exact h
theorem okLib_8 {L : List En} (h : okLib L = true) : L.length ≤ 8 := by
  unfold okLib at h
  rw [Bool.and_eq_true, decide_eq_true_eq] at h
  exact h.1
set_option maxRecDepth 100000 in
set_option maxHeartbeats 4000000 in
theorem dn_im (A : Option Addr) (c N : Nat) (L : List En) (z : Int) (w : World) (h : RdE w A L) (hn : L.length = N) (hm : N ≤ 1048576) (hz : ∀ x ∈ L, x.sz ≤ 1048576) (hcp : Cap L) (ht : Tab w) (hmn : Mon w) :
    Calls Tryz.prog 19 #[.agg #[.slice A N c], .int .i64 z] w (DnP L z w) := by
  have hb0 : Kp w (w.alloc (.cells #[.slice A N c] 33)) := kal (kre _) _
  have hc0 := (box1 w (.slice A N c) 33).1
  have hs0 : w.heap.size < (w.alloc (.cells #[.slice A N c] 33)).heap.size := by simp
  have HV := Lib.hid (isValidL A c N L _ (h.below hb0) hn hm hz)
  have HPl := Lib.hid (fun (ha : asked L z = true) w' (k : Kp w w') => dis_i A c N L z w' (h.below k) hn (by have := okLib_8 (asked_parts ha).1; omega) hz (okL_of (asked_parts ha).1) (asked_parts ha).2 hcp (ht.below k) (hmn.below k))
  have HN := Lib.hid hn
  have HLm := Lib.hid (fun w => limit_i z _ w rfl)
  have HUl := Lib.hid ((unl_len L z).trans hn)
  unfold DnP
  have HAs : Hid (asked L z = (okLib L && decide (1 ≤ z ∧ z ≤ 4))) := Lib.hid rfl
  rw [HAs.out]
  rw [HAs.out] at HPl
  have E1 : Hid ((okLib L && decide (1 ≤ z ∧ z ≤ 4)) = true → dnT L z = unl L z) := Lib.hid (fun h => if_pos (by rw [HAs.out, h]))
  have E0 : Hid ((okLib L && decide (1 ≤ z ∧ z ≤ 4)) = false → dnT L z = []) := Lib.hid (fun h => if_neg (by rw [HAs.out, h]; exact Bool.false_ne_true))
  generalize okLib L = r1 at *
  generalize decide (1 ≤ z ∧ z ≤ 4) = r2 at *
  clear h hn hz hcp ht hmn HAs
  go_enter Tryz.func19, Tryz.ntmps19
  go_wp2_with fail
  generalize w.alloc (.cells #[.slice A N c] 33) = w0 at hb0 hc0 hs0 HV ⊢
  refine HV.out.mono ?_
  rintro e w1 ⟨rfl, b1⟩
  have hc1 := (b1.cell (p := ⟨w.heap.size, 0, none⟩) hs0).trans hc0
  have k1 : Kp w w1 := ktr hb0 b1
  clear b1 HV hc0 hs0 hb0
  cases r1 with
  | false =>
    go_wp2_with fail
    go_ret2
    exact ⟨_, rfl, by rw [E0.out (by first | rfl | trivial)]; exact Cs.row_base (ksz k1) (empty_row w1 w1.heap.size (Nat.le_refl _)), kal k1 _⟩
  | true =>
    go_wp2_with fail
    refine (HLm.out _).mono ?_
    rintro e w2 ⟨rfl, rfl⟩
    cases r2 with
    | false =>
      go_wp2_with fail
      go_ret2
      exact ⟨_, rfl, by rw [E0.out (by first | rfl | trivial)]; exact Cs.row_base (ksz k1) (empty_row w1 w1.heap.size (Nat.le_refl _)), kal k1 _⟩
    | true =>
      go_wp2_with fail
      refine (HPl.out (by first | rfl | trivial) _ k1).mono ?_
      rintro e w2 ⟨v, rfl, ho, b2⟩
      go_wp2_with fail
      go_ret2
      exact ⟨_, rfl, by rw [E1.out (by first | rfl | trivial), HUl.out]; exact Cs.row_base (ksz k1) ho, ktr k1 b2⟩
end Go.Proofs.YteccmlpibbchbaaGreatDoor.Tdn
