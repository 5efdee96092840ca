/-
  respelled, respellSpans and normalResult of the program.
-/
import Derived.Test.YtadlcchbjccejaaSpB
import Derived.Test.YtadlcchbjccejaaSpN
namespace Go.Proofs.Ytadlcchbjccejaa.SpRs
open Go.RowKit SpPl Sp SpA SpB SpG SpNs SpNi SpN
set_option linter.unusedSimpArgs false
set_option linter.unusedVariables false

set_option maxHeartbeats 400000 in
theorem resp_any (l : ByteArray) (f b : Bool) (t : ByteArray) (w : World) :
    Calls Try.prog 34 #[spV l f b, .string t] w fun e w' => e = .returned (spV t f b) ∧ Below w.heap.size w w' := by
  go_enter Try.func34, Try.ntmps34
  go_wp2_with fail
  exact bodyPost_ret (v := spV t f b) (by simp [results, Try.results34, go_sem]) rfl ⟨rfl, by
    repeat (first | exact Below.refl _ _ | (refine Below.setCell ?_ (by simp) _) | (refine Below.alloc ?_ (by simp) _))⟩


/-- the spans with the bytes of a text from place o on -/
def rsp (t : ByteArray) : Nat → List Sp1 → List Sp1
  | _, [] => []
  | o, x :: r => ⟨t.extract o (o + x.l.size), x.f, x.t⟩ :: rsp t (o + x.l.size) r
theorem rsp_snoc (t : ByteArray) (o : Nat) (M : List Sp1) (x : Sp1) : rsp t o (M ++ [x]) = rsp t o M ++ [⟨t.extract (o + szL M) (o + szL M + x.l.size), x.f, x.t⟩] := by
  induction M generalizing o with
  | nil => simp [rsp, szL]
  | cons y r ih =>
    have e : szL (y :: r) = y.l.size + szL r := by simp [szL]
    rw [List.cons_append, rsp, rsp, ih, e, List.cons_append]
    rw [show o + y.l.size + szL r = o + (y.l.size + szL r) by omega]
theorem rsp_take {L : List Sp1} {k : Nat} {x : Sp1} (t : ByteArray) (o : Nat) (h : L[k]? = some x) : rsp t o (L.take (k + 1)) = rsp t o (L.take k) ++ [⟨t.extract (o + szL (L.take k)) (o + szL (L.take k) + x.l.size), x.f, x.t⟩] := by
  rw [List.take_add_one, h]
  exact rsp_snoc t o _ x
theorem rsp_len (t : ByteArray) (o : Nat) (L : List Sp1) : (rsp t o L).length = L.length := by
  induction L generalizing o with
  | nil => rfl
  | cons x r ih => rw [rsp, List.length_cons, ih, List.length_cons]
theorem rsp_sz (t : ByteArray) (o : Nat) (L : List Sp1) : szL (rsp t o L) ≤ szL L := by
  induction L generalizing o with
  | nil => exact Nat.le_refl _
  | cons x r ih =>
    have e : szL (x :: r) = x.l.size + szL r := by simp [szL]
    have e2 : szL (rsp t o (x :: r)) = (t.extract o (o + x.l.size)).size + szL (rsp t (o + x.l.size) r) := by rw [rsp]; simp [szL]
    have := ih (o + x.l.size)
    rw [e, e2, ByteArray.size_extract]
    omega
def RsPost (t : ByteArray) (L : List Sp1) (w : World) (e : Ending) (w' : World) : Prop := ∃ v, e = .returned v ∧ w'.ownsRow w.heap.size 38 3 v (rsp t 0 L).length (pcells (rsp t 0 L)) ∧ Below w.heap.size w w'

set_option maxRecDepth 100000 in
set_option maxHeartbeats 4000000 in
theorem respell_i (A : Option Addr) (c N : Nat) (L : List Sp1) (t : ByteArray) (w : World) (h : RdSp w A L) (hn : L.length = N) (hN : N ≤ 1048576) (hs : szL L ≤ t.size) (ht : t.size ≤ 1048576) :
    Calls Try.prog 21 #[.slice A N c, .string t] w (RsPost t L w) := by
  obtain ⟨i0, hi, hz0, hz1, hz2⟩ := info_parts infoSp
  have HR := Lib.hid h
  have HN := Lib.hid hn
  have HL := Lib.hid hs
  have HO0 : Hid ((w.alloc (.cells #[] 38)).ownsRow w.heap.size 38 3 (.slice (some ⟨w.heap.size, 0, none⟩) 0 0) 0 (pcells (rsp t 0 (L.take 0)))) := Lib.hid (own_nil0 w)
  have HB0 := Lib.hid (box_below w (.cells #[] 38))
  clear h hn hs
  go_enter Try.func21, Try.ntmps21
  go_wp2_with fail
  go_loopw [1, 5, 12] (fun u v q wr => ∃ k : Nat, k ≤ N ∧ q = .int .i64 k ∧ (∃ x : ByteArray, Hid (x = t.extract (szL (L.take k)) t.size) ∧ u = .string x) ∧ Hid (wr.ownsRow w.heap.size 38 3 v k (pcells (rsp t 0 (L.take k)))) ∧ Below w.heap.size w wr) (fun _ _ q _ => N - (intOf q).toNat)
  case atStart => exact ⟨0, Nat.zero_le _, rfl, ⟨t, Lib.hid (by simp [szL]), rfl⟩, HO0, HB0.out⟩
  case round =>
    obtain ⟨k, hk, rfl, ⟨u, HU, rfl⟩, HO, hb⟩ := hrel
    obtain ⟨A2, c2, rfl, _, RM, hc2⟩ := own_rdp HO.out
    by_cases hlt : k < N
    · have hkx : k < L.length := by rw [HN.out]; exact hlt
      have hx? := List.getElem?_eq_getElem hkx
      obtain ⟨g, o, rfl, hg, c0, c1, c3⟩ := (HR.out.below hb) k L[k] hx?
      have HF := Lib.hid (rsp_take t 0 hx?)
      have HZt := Lib.hid (szL_take hx?)
      have HZl := Lib.hid (szL_le L (k + 1))
      clear hx? RM
      generalize L[k] = x at *
      obtain ⟨l, f, b⟩ := x
      dsimp only at c0 c1 c3 HF HZt
      obtain ⟨p, hp⟩ : ∃ p, szL (L.take k) = p := ⟨_, rfl⟩
      rw [hp] at HF HZt HU
      obtain ⟨n, hln⟩ : ∃ n, l.size = n := ⟨_, rfl⟩
      have hle : p + n ≤ t.size := by have h1 := HZt.out; have h2 := HZl.out; have h3 := HL.out; omega
      have hus : u.size = t.size - p := by rw [HU.out, ByteArray.size_extract]; omega
      have hnu : n ≤ u.size := by omega
      have he1 : u.extract 0 n = t.extract (0 + p) (0 + p + n) := by rw [HU.out, ByteArray.extract_extract, Nat.min_eq_left (by omega)]; congr 1 <;> omega
      have he2 : u.extract n u.size = t.extract (szL (L.take (k + 1))) t.size := by rw [hus, HZt.out, HU.out, hln, ByteArray.extract_extract, Nat.min_eq_right (by omega)]
      rw [hln] at HF
      have HU2 := Lib.hid he2
      have HF2 := Lib.hid (show pcells (rsp t 0 (L.take (k + 1))) = pcells (rsp t 0 (L.take k)) ++ [.string (u.extract 0 n), .bool f, .bool b] by rw [HF.out, pcells_app, he1]; rfl)
      have HLn := Lib.hid hln
      have hul : u.size ≤ 1048576 := by omega
      clear he1 he2 hp HF HZt HZl hus hln
      have D5 := P3.new wr l f b 38
      have hb5 : Kp wr (wr.alloc (.cells #[.string l, .bool f, .bool b] 38)) := box_below _ _
      go_upto_region 6 with fail
      rw [HLn.out]
      generalize wr.alloc (.cells #[.string l, .bool f, .bool b] 38) = w5 at D5 hb5 ⊢
      generalize hB : wr.heap.size = B at D5 ⊢
      obtain ⟨p5, e0, e1, e2⟩ := D5
      have HO5 := Lib.hid (fun w' (h : Kp w5 w') => own_kept HO.out (Below.trans hb5 (h.mono hb5.size)))
      have hbw : Kp w w5 := hb.trans (Below.mono hb5 hb.size)
      have hrow : ∀ q, (Value.slice A2 k c2).ownBlock = some q → w.heap.size ≤ q ∧ q < B := fun q hq => by have := HO.out.lt q hq; omega
      have HRw := Lib.hid hrow
      have HSS : Hid (∀ w', Kp w5 w' → ((w'.cell? ⟨B, 0, none⟩ = some (.string l) ∧ w'.cell? ⟨B, 1, none⟩ = some (.bool f) ∧ w'.cell? ⟨B, 2, none⟩ = some (.bool b)) ∧ Kp w w')) := Lib.hid (fun w' h => ⟨⟨(h.cell (p := ⟨B, 0, none⟩) p5).trans e0, (h.cell (p := ⟨B, 1, none⟩) p5).trans e1, (h.cell (p := ⟨B, 2, none⟩) p5).trans e2⟩, Below.trans hbw (h.mono hbw.size)⟩)
      have HK0 := Lib.hid (Kp.drew w5)
      have hs5 := Below.size hbw
      clear c0 c1 c3 hB e0 e1 e2 hrow
      go_region_held3 (fun w' => (w'.cell? ⟨B, 0, none⟩ = some (.string l) ∧ w'.cell? ⟨B, 1, none⟩ = some (.bool f) ∧ w'.cell? ⟨B, 2, none⟩ = some (.bool b)) ∧ Kp w w')
        (first | exact HSS.out _ HK0.out | assumption | exact HSS.out _ (by repeat (first | assumption | exact Kp.refl' _ | refine kdr ?_ | refine kal ?_ _)))
        (first
          | (go_at_call 34; with_reducible refine (resp_any l f b _ _).mono ?_; rintro e w1 ⟨rfl, b1⟩; have hk1 : Kp w5 w1 := Kp.next HK0.out b1)
          | (refine step_own (by rfl) _ _ _ (by rfl) w.heap.size 38 i0 _ 3 24 Try.underlying24 hi hz0 hz1 hz2 rfl (by decide) _ k _ (by rfl) (HO5.out _ (by repeat (first | assumption | exact Kp.refl' _ | refine kdr ?_ | refine kal ?_ _))) ⟨_, 0, none⟩ 1 1 [.string (u.extract 0 n), .bool f, .bool b] (by rfl) rfl (cells3_heap (t := 38) (fr := (0, 0)) (by exact heap_alloc_new _ _)) (by simp [Value.oneCell']) (by unfold maxLen; omega) (by omega) (by have := ksz hk1; simp; omega) ?_; intro v8 w8 hown8 hgrow8 hne8; have hk8 := far3' (HSS.out _ (by repeat (first | assumption | exact Kp.refl' _ | refine kdr ?_ | refine kal ?_ _))) hgrow8 HRw.out (Nat.lt_of_lt_of_le p5 (ksz (W := w5) (by repeat (first | assumption | exact Kp.refl' _ | refine kdr ?_ | refine kal ?_ _)))))
          )
      have hbw8 := hk8.2
      have HO8 : Hid (w8.ownsRow w.heap.size 38 3 v8 (k + 1) (pcells (rsp t 0 (L.take (k + 1))))) := Lib.hid (by rw [HF2.out]; exact hown8)
      clear hown8 hgrow8 hne8 hk8 HSS HK0 HO5 hk1 b1
      (try clear hHeld)
      go_wp2_with fail
      go_roundw
      case rel => exact ⟨k + 1, by omega, by go_num, ⟨_, HU2, rfl⟩, HO8, hbw8⟩
      case measure => (simp [intOf] <;> omega)
    · obtain rfl : k = N := by omega
      have hE : L.take k = L := List.take_of_length_le (by rw [HN.out]; exact Nat.le_refl _)
      have HOf : Hid (wr.ownsRow w.heap.size 38 3 (.slice A2 k c2) (rsp t 0 L).length (pcells (rsp t 0 L))) := Lib.hid (by
        have := HO.out
        rw [hE] at this
        rw [rsp_len, HN.out]
        exact this)
      clear hE HO RM HU
      go_wp2_with fail
      go_ret
      exact ⟨_, rfl, HOf.out, hb⟩
/-- what normalResult answers -/
def nrR (L : List Sp1) : List Sp1 := if okS (nmL L) then nmL L else []
def NrPost (L : List Sp1) (w : World) (e : Ending) (w' : World) : Prop := ∃ v, e = .returned (.tuple #[v, .bool (okS (nmL L))]) ∧ w'.ownsRow w.heap.size 38 3 v (nrR L).length (pcells (nrR L)) ∧ Below w.heap.size w w'
set_option maxHeartbeats 1000000 in
theorem normres_i (A : Option Addr) (c N : Nat) (L : List Sp1) (w : World) (h : RdSp w A L) (hn : L.length = N) (hN : N ≤ 1048576) (hs : szL L ≤ 1048576) :
    Calls Try.prog 20 #[.slice A N c] w (NrPost L w) := by
  have HM := Lib.hid (normal_i A c N L w h hn hN hs)
  have hf := nm_facts L
  have HG := Lib.hid (fun (A : Option Addr) (c : Nat) (w' : World) (h : RdSp w' A (nmL L)) => good_i A c (nmL L).length (nmL L) (okS (nmL L)) w' h rfl (by omega) (by omega) rfl)
  unfold NrPost nrR
  generalize nmL L = M at HM HG ⊢
  cases hz : okS M with
  | false =>
    rw [hz] at HG
    clear h hn hs hf hz
    go_enter Try.func20, Try.ntmps20
    go_wp2_with fail
    refine HM.out.mono ?_
    rintro e w1 ⟨v1, rfl, o1, b1⟩
    obtain ⟨A1, c1, rfl, _, R1, _⟩ := own_rdp o1
    have HG1 := Lib.hid (HG.out A1 c1 w1 R1)
    clear o1 R1
    go_wp2_with fail
    refine HG1.out.mono ?_
    rintro e w2 ⟨rfl, b2⟩
    have hb := b1.trans (b2.mono b1.size)
    have ho := row_base' hb.size (own_nil0 w2)
    have hb3 := hb.trans ((box_below w2 (.cells #[] 38)).mono hb.size)
    clear b1 b2
    go_wp2_with fail
    go_ret2
    exact ⟨_, rfl, ho, hb3⟩
  | true =>
    rw [hz] at HG
    clear h hn hs hf hz
    go_enter Try.func20, Try.ntmps20
    go_wp2_with fail
    refine HM.out.mono ?_
    rintro e w1 ⟨v1, rfl, o1, b1⟩
    obtain ⟨A1, c1, rfl, _, R1, _⟩ := own_rdp o1
    have HG1 := Lib.hid (HG.out A1 c1 w1 R1)
    have HO1 := Lib.hid o1
    clear o1 R1
    go_wp2_with fail
    refine HG1.out.mono ?_
    rintro e w2 ⟨rfl, b2⟩
    have hb := b1.trans (b2.mono b1.size)
    have HO2 := Lib.hid (own_kept HO1.out b2)
    clear b1 b2 HO1
    go_wp2_with fail
    go_ret2
    exact ⟨_, rfl, HO2.out, hb⟩
end Go.Proofs.Ytadlcchbjccejaa.SpRs
