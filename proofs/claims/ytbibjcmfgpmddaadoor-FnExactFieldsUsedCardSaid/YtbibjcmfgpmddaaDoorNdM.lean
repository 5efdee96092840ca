/-
  Contracts of the laws' helpers that mark trees of nodes: markNodeS, markNode, markStyle; heldNodeS, heldNode, heldStyle.
-/
import Derived.Test.YtbibjcmfgpmddaaDoorNdH
import Derived.Test.YtbibjcmfgpmddaaDoorNdG
import Derived.Test.YtbibjcmfgpmddaaDoorMarks
namespace Go.Proofs.YtbibjcmfgpmddaaDoor.Nd
open Go.RowKit NdPl Strs
set_option linter.unusedSimpArgs false
set_option linter.unusedVariables false

mutual
/-- a node, marked from k on -/
def mkX : Nat → Tr → Tr
  | k, .mk _ _ _ _ l => .mk k (mkT (k + 1)) (mkT (k + 2)) (mkT (k + 3)) (mkS (k + 4) l)
def mkS : Nat → List Tr → List Tr
  | _, [] => []
  | k, x :: r => mkX k x :: mkS (k + 4 * cntT x) r
end
theorem mkS_len (k : Nat) (L : List Tr) : (mkS k L).length = L.length := by
  induction L generalizing k with
  | nil => rfl
  | cons x r ih => simp [mkS, ih]
theorem mkS_app (k : Nat) (A B : List Tr) : mkS k (A ++ B) = mkS k A ++ mkS (k + 4 * cntS A) B := by
  induction A generalizing k with
  | nil => simp [mkS, cntS]
  | cons x r ih =>
    simp only [List.cons_append, mkS, ih, cntS]
    rw [show k + 4 * cntT x + 4 * cntS r = k + 4 * (cntT x + cntS r) by omega]
theorem mkS_take {k j : Nat} {L : List Tr} {x : Tr} (h : L[j]? = some x) : mkS k (L.take (j + 1)) = mkS k (L.take j) ++ [mkX (k + 4 * cntS (L.take j)) x] := by
  rw [List.take_add_one, h, mkS_app]; rfl
theorem mkS_at {k j : Nat} {L : List Tr} {x : Tr} (h : L[j]? = some x) : (mkS k L)[j]? = some (mkX (k + 4 * cntS (L.take j)) x) := by
  obtain ⟨hj, rfl⟩ := List.getElem?_eq_some_iff.1 h
  have e : mkS k L = mkS k (L.take (j + 1)) ++ mkS (k + 4 * cntS (L.take (j + 1))) (L.drop (j + 1)) := by rw [← mkS_app, List.take_append_drop]
  rw [e, mkS_take h, List.append_assoc, List.getElem?_append_right (by rw [mkS_len, List.length_take]; omega), mkS_len, List.length_take, Nat.min_eq_left (Nat.le_of_lt hj), Nat.sub_self]
  rfl
theorem mkX_eq (k : Nat) (x : Tr) : mkX k x = .mk k (mkT (k + 1)) (mkT (k + 2)) (mkT (k + 3)) (mkS (k + 4) x.ps) := by cases x; rfl

/-- nothing of w has changed but the blocks F -/
structure OutF (F : List Nat) (w w' : World) : Prop where
  os : w'.os = w.os
  tape : w'.tape = w.tape
  output : w'.output = w.output
  size : w.heap.size ≤ w'.heap.size
  block : ∀ b, b < w.heap.size → b ∉ F → w'.heap[b]? = w.heap[b]?
theorem OutF.refl (F : List Nat) (w : World) : OutF F w w := ⟨rfl, rfl, rfl, Nat.le_refl _, fun _ _ _ => rfl⟩
theorem OutF.trans {F : List Nat} {a b c : World} (h : OutF F a b) (k : OutF F b c) : OutF F a c :=
  ⟨k.os.trans h.os, k.tape.trans h.tape, k.output.trans h.output, Nat.le_trans h.size k.size, fun x hx hF => (k.block x (Nat.lt_of_lt_of_le hx h.size) hF).trans (h.block x hx hF)⟩
theorem OutF.mono {F G : List Nat} {a b : World} (h : OutF F a b) (hs : ∀ x ∈ F, x ∈ G) : OutF G a b :=
  ⟨h.os, h.tape, h.output, h.size, fun x hx hG => h.block x hx (fun hF => hG (hs x hF))⟩
theorem OutF.of_below {F : List Nat} {a b : World} (h : Below a.heap.size a b) : OutF F a b := ⟨h.os, h.tape, h.output, h.size, fun x hx _ => h.block x hx⟩
theorem OutF.of_grown {F : List Nat} {a b : World} {g : Nat} (h : a.grownBy b (some g)) (hg : g ∈ F) : OutF F a b :=
  ⟨h.os, h.tape, h.output, h.size, fun x hx hF => h.block x hx (fun e => by cases e; exact hF hg)⟩
theorem OutF.below {F : List Nat} {W a b : World} (h : OutF F a b) (hb : Below W.heap.size W a) (hF : ∀ x ∈ F, W.heap.size ≤ x) : Below W.heap.size W b :=
  ⟨h.os.trans hb.os, h.tape.trans hb.tape, h.output.trans hb.output, Nat.le_trans hb.size h.size, fun x hx => (h.block x (Nat.lt_of_lt_of_le hx hb.size) (fun hx' => by have := hF x hx'; omega)).trans (hb.block x hx)⟩
theorem OutF.own {F G : List Nat} {a b : World} {d : Nat} {A : Option Addr} {c : Nat} {L : List Tr} (h : OutF F a b) (ho : OwL d a A c L G) (hd : ∀ x ∈ G, x ∉ F) : OwL d b A c L G :=
  ho.keep (fun x hx => h.block x (ho.lt x hx) (hd x hx))
theorem gb_trans' {w w1 w2 : World} {row : Option Nat} (h : w.grownBy w1 row) (hb : w1.grownBy w2 row) : w.grownBy w2 row :=
  ⟨hb.os.trans h.os, hb.tape.trans h.tape, hb.output.trans h.output, Nat.le_trans h.size hb.size, fun k hk hr => (hb.block k (Nat.lt_of_lt_of_le hk h.size) hr).trans (h.block k hk hr)⟩
theorem gb_more' {w w1 w2 : World} {row : Option Nat} (h : w.grownBy w1 row) (hb : Below w1.heap.size w1 w2) : w.grownBy w2 row :=
  ⟨hb.os.trans h.os, hb.tape.trans h.tape, hb.output.trans h.output, Nat.le_trans h.size hb.size, fun k hk hr => (hb.block k (Nat.lt_of_lt_of_le hk h.size)).trans (h.block k hk hr)⟩
theorem flat_apart {Fs : List (List Nat)} (hn : Fs.flatten.Nodup) {i j : Nat} {f f' : List Nat} (hi : Fs[i]? = some f) (hj : Fs[j]? = some f') (hne : i ≠ j) : ∀ x ∈ f, x ∉ f' := by
  induction Fs generalizing i j with
  | nil => simp at hi
  | cons a r ih =>
    rw [List.flatten_cons, List.nodup_append] at hn
    obtain ⟨_, hn2, hd⟩ := hn
    cases i with
    | zero =>
      simp at hi; subst hi
      cases j with
      | zero => exact absurd rfl hne
      | succ j => intro x hx hx'; exact hd x hx x (mem_flat (by simpa using hj) hx') rfl
    | succ i =>
      cases j with
      | zero =>
        simp at hj; subst hj
        intro x hx hx'
        exact hd x hx' x (mem_flat (by simpa using hi) hx) rfl
      | succ j => exact ih hn2 (by simpa using hi) (by simpa using hj) (by omega)
theorem flat_nodup {Fs : List (List Nat)} (hn : Fs.flatten.Nodup) {i : Nat} {f : List Nat} (hi : Fs[i]? = some f) : f.Nodup := by
  induction Fs generalizing i with
  | nil => simp at hi
  | cons a r ih =>
    rw [List.flatten_cons, List.nodup_append] at hn
    cases i with
    | zero => simp at hi; subst hi; exact hn.1
    | succ i => exact ih hn.2.1 (by simpa using hi)
/-- four cells of a node set -/
theorem ecells_set {E : List El} {j : Nat} {e : El} (h : E[j]? = some e) (op : Int) (wd tx af : ByteArray) :
    ((((ecells E).set (j * 5) (.int .i64 op)).set (j * 5 + 1) (.string wd)).set (j * 5 + 2) (.string tx)).set (j * 5 + 3) (.string af) = ecells (E.set j ⟨.mk op wd tx af e.x.ps, e.B, e.c⟩) := by
  induction E generalizing j with
  | nil => simp at h
  | cons y r ih =>
    cases j with
    | zero => simp at h; subst h; rfl
    | succ j =>
      have e1 : ecells (y :: r) = .int .i64 y.x.op :: .string y.x.wd :: .string y.x.tx :: .string y.x.af :: .slice y.B y.x.ps.length y.c :: ecells r := rfl
      have e2 : ecells ((y :: r).set (j + 1) ⟨.mk op wd tx af e.x.ps, e.B, e.c⟩) = .int .i64 y.x.op :: .string y.x.wd :: .string y.x.tx :: .string y.x.af :: .slice y.B y.x.ps.length y.c :: ecells (r.set j ⟨.mk op wd tx af e.x.ps, e.B, e.c⟩) := rfl
      rw [e1, e2, ← ih (by simpa using h), show (j + 1) * 5 = j * 5 + 1 + 1 + 1 + 1 + 1 by omega]
      simp only [List.set_cons_succ]
theorem ecells_same {E : List El} {j : Nat} {a b : El} (h : a.cells = b.cells) : ecells (E.set j a) = ecells (E.set j b) := by
  induction E generalizing j with
  | nil => rfl
  | cons y r ih =>
    cases j with
    | zero => show a.cells ++ ecells r = b.cells ++ ecells r; rw [h]
    | succ j => show y.cells ++ ecells (r.set j a) = y.cells ++ ecells (r.set j b); rw [ih]

def MarkL (d : Nat) : Prop := ∀ (L : List Tr) (A : Option Addr) (c N : Nat) (F : List Nat) (k : Nat) (w : World), OwL d w A c L F → F.Nodup → L.length = N → 0 < k → k + 4 * cntS L ≤ 8388608 →
  Calls Tryd.prog 34 #[.slice A N c, .int .i64 k] w fun e w' => e = .returned (.int .i64 ((k + 4 * cntS L : Nat) : Int)) ∧ OwL d w' A c (mkS k L) F ∧ OutF F w w'
/-- the state of the loop: j elements are marked -/
def MkSt (d g c N k j : Nat) (L : List Tr) (Fs : List (List Nat)) (w : World) : Prop :=
  ∃ Ej : List El, Ej.length = N ∧ Ej.map El.x = mkS k (L.take j) ++ L.drop j ∧ w.ownsRow 0 33 5 (.slice (some ⟨g, 0, none⟩) N c) N (ecells Ej) ∧ ∀ (i : Nat) e f, Ej[i]? = some e → Fs[i]? = some f → OwL d w e.B e.c e.x.ps f

set_option maxRecDepth 100000 in
set_option maxHeartbeats 4000000 in
theorem markL_step (d : Nat) (ih : ∀ d', d = d' + 1 → MarkL d') : MarkL d := by
  intro L A c N F k w ho hnd hn h0 hk
  cases L with
  | nil =>
    simp at hn
    subst hn
    have HO := Lib.hid ho
    clear ho hk
    go_enter Tryd.func34, Tryd.ntmps34
    go_wp2_with fail
    go_loop [1, 5] (fun m i => m = .int .i64 k ∧ i = .int .i64 0) (fun _ _ => 0)
    case atStart => exact ⟨rfl, rfl⟩
    case round =>
      obtain ⟨rfl, rfl⟩ := hrel
      go_wp2_with fail
      go_ret
      exact ⟨by simp [cntS], HO.out, OutF.refl _ _⟩
  | cons x0 r0 =>
    generalize hL : x0 :: r0 = L at *
    have hne : L ≠ [] := by rw [← hL]; simp
    clear hL x0 r0
    obtain ⟨d', hd⟩ : ∃ d', d = d' + 1 := by
      cases d with
      | zero => exact absurd (show L = [] from ho.1) hne
      | succ d' => exact ⟨d', rfl⟩
    subst hd
    rcases ho with ⟨h, _⟩ | ⟨g, E, Fs, rfl, hrow, hE, rfl, hFl, hch⟩
    · exact absurd h hne
    rw [hn] at hrow
    have hEl : E.length = N := by rw [← hn, ← hE]; simp
    have HI := Lib.hid (ih d' rfl)
    have HN := Lib.hid hn
    have HFl : Hid (Fs.length = N) := Lib.hid (by omega)
    have hgF : g ∉ Fs.flatten := (List.nodup_cons.1 hnd).1
    have HgF := Lib.hid hgF
    have HnF := Lib.hid (List.nodup_cons.1 hnd).2
    have HS0 : Hid (MkSt d' g c N k 0 L Fs w) := Lib.hid ⟨E, hEl, by simpa [mkS] using hE, hrow, hch⟩
    have HK := Lib.hid hk
    have hk8 : k ≤ 8388608 := by omega
    have hNb : N ≤ 8388608 := by
      have h1 : L.length ≤ cntS L := by
        clear hne ih HI HS0 HK HN hk hn hrow hE hch
        induction L with
        | nil => exact Nat.zero_le _
        | cons y r ih => rw [List.length_cons, cntS, cntT_eq]; omega
      omega
    clear ih hn hk hrow hE hEl hch hgF hnd hFl hne E
    go_enter Tryd.func34, Tryd.ntmps34
    go_wp2_with fail
    go_loopw [1, 5] (fun m i wr => ∃ j kk : Nat, j ≤ N ∧ i = .int .i64 j ∧ m = .int .i64 kk ∧ kk ≤ 8388608 ∧ 0 < kk ∧ Hid (kk = k + 4 * cntS (L.take j)) ∧ Hid (MkSt d' g c N k j L Fs wr) ∧ Hid (OutF (g :: Fs.flatten) w wr)) (fun _ i _ => N - (intOf i).toNat)
    case atStart => exact ⟨0, k, Nat.zero_le _, rfl, rfl, hk8, h0, Lib.hid (by simp [cntS]), HS0, Lib.hid (OutF.refl _ _)⟩
    case round =>
      obtain ⟨j, kk, hj, rfl, rfl, hkk, hkk0, HKj, HSt, HOu⟩ := hrel
      by_cases hlt : j < N
      · have hjx : j < L.length := by rw [HN.out]; exact hlt
        have hx? := List.getElem?_eq_getElem hjx
        generalize L[j] = x at hx?
        have HX := Lib.hid hx?
        have hct : kk + 4 * cntT x ≤ 8388608 := by
          have h1 := cntS_take hx?
          have h2 := cntS_le L (j + 1)
          have := HKj.out
          have := HK.out
          omega
        rw [cntT_eq] at hct
        clear hx?
        obtain ⟨Ej, hEl, hEm, hrow, hch⟩ := HSt.out
        obtain ⟨e, he⟩ : ∃ e, Ej[j]? = some e := ⟨_, List.getElem?_eq_getElem (by omega)⟩
        obtain ⟨f, hf⟩ : ∃ f, Fs[j]? = some f := ⟨_, List.getElem?_eq_getElem (by rw [HFl.out]; exact hlt)⟩
        have hex : e.x = x := by
          have h1 := congrArg (fun l => l[j]?) hEm
          rw [List.getElem?_map, he, List.getElem?_append_right (by rw [mkS_len, List.length_take]; omega), mkS_len, List.length_take, Nat.min_eq_left (by omega), Nat.sub_self, List.getElem?_drop, Nat.add_zero, HX.out] at h1
          exact Option.some.inj h1
        subst hex
        obtain ⟨x, B, ce⟩ := e
        dsimp only at *
        have HEm := Lib.hid hEm
        have HE := Lib.hid he
        have HFj := Lib.hid hf
        have HCh := Lib.hid hch
        have HEl := Lib.hid hEl
        have HRow := Lib.hid hrow
        obtain ⟨k1, hk1⟩ : ∃ k1 : Nat, (kk : Int) + 1 = (k1 : Int) := ⟨kk + 1, by omega⟩
        obtain ⟨k2, hk2⟩ : ∃ k2 : Nat, (k1 : Int) + 1 = (k2 : Int) := ⟨k1 + 1, by omega⟩
        obtain ⟨k3, hk3⟩ : ∃ k3 : Nat, (k2 : Int) + 1 = (k3 : Int) := ⟨k2 + 1, by omega⟩
        obtain ⟨k4, hk4⟩ : ∃ k4 : Nat, (k3 : Int) + 1 = (k4 : Int) := ⟨k3 + 1, by omega⟩
        have Hks : Hid (k1 = kk + 1 ∧ k2 = kk + 2 ∧ k3 = kk + 3 ∧ k4 = kk + 4) := Lib.hid (by omega)
        have HT1 := Lib.hid (fun w => markText_any k1 w (by omega) (by omega))
        have HT2 := Lib.hid (fun w => markText_any k2 w (by omega) (by omega))
        have HT3 := Lib.hid (fun w => markText_any k3 w (by omega) (by omega))
        have hlen : (ecells Ej).length = N * 5 := by rw [ecells_len, hEl]
        have HLen := Lib.hid hlen
        have hf0 := World.ownsRow.frozenAt hrow (j * 5)
        obtain ⟨u0, hu0⟩ : ∃ u, wr.cell? ⟨g, j * 5, none⟩ = some u := by rw [World.ownsRow.cellAt hrow (j * 5) (by omega)]; exact ⟨_, List.getElem?_eq_getElem (by omega)⟩
        clear hEl hEm he hf hch hrow hlen HSt
        -- the number
        obtain ⟨HR1, HG1⟩ : Hid ((wr.setCell ⟨g, j * 5, none⟩ (.int .i64 kk)).ownsRow 0 33 5 (.slice (some ⟨g, 0, none⟩) N c) N ((ecells Ej).set (j * 5) (.int .i64 kk))) ∧ Hid (wr.grownBy (wr.setCell ⟨g, j * 5, none⟩ (.int .i64 kk)) (some g)) :=
          ⟨Lib.hid (HRow.out.stored (j * 5) (.int .i64 kk)).1, Lib.hid (HRow.out.stored (j * 5) (.int .i64 kk)).2⟩
        go_wp2_with fail
        generalize wr.setCell ⟨g, j * 5, none⟩ (.int .i64 kk) = v1 at *
        clear hf0 hu0
        refine (HT1.out _).mono ?_
        rintro _ v2 ⟨rfl, b2⟩
        have HR2 := Lib.hid (own_kept HR1.out b2)
        have HG2 := Lib.hid (gb_more' HG1.out b2)
        have hf1 := World.ownsRow.frozenAt HR2.out (j * 5 + 1)
        obtain ⟨u1, hu1⟩ : ∃ u, v2.cell? ⟨g, j * 5 + 1, none⟩ = some u := by rw [World.ownsRow.cellAt HR2.out (j * 5 + 1) (by omega)]; exact ⟨_, List.getElem?_eq_getElem (by rw [List.length_set]; have := HLen.out; omega)⟩
        obtain ⟨HR3, HG3⟩ : Hid ((v2.setCell ⟨g, j * 5 + 1, none⟩ (.string (mkT k1))).ownsRow 0 33 5 (.slice (some ⟨g, 0, none⟩) N c) N (((ecells Ej).set (j * 5) (.int .i64 kk)).set (j * 5 + 1) (.string (mkT k1)))) ∧ Hid (wr.grownBy (v2.setCell ⟨g, j * 5 + 1, none⟩ (.string (mkT k1))) (some g)) :=
          ⟨Lib.hid (HR2.out.stored _ _).1, Lib.hid (gb_trans' HG2.out (HR2.out.stored _ _).2)⟩
        clear b2 HR1 HG1 HR2 HG2
        go_wp2_with fail
        generalize v2.setCell ⟨g, j * 5 + 1, none⟩ (.string (mkT k1)) = v3 at *
        clear hf1 hu1
        refine (HT2.out _).mono ?_
        rintro _ v4 ⟨rfl, b4⟩
        have HR4 := Lib.hid (own_kept HR3.out b4)
        have HG4 := Lib.hid (gb_more' HG3.out b4)
        have hf2 := World.ownsRow.frozenAt HR4.out (j * 5 + 2)
        obtain ⟨u2, hu2⟩ : ∃ u, v4.cell? ⟨g, j * 5 + 2, none⟩ = some u := by rw [World.ownsRow.cellAt HR4.out (j * 5 + 2) (by omega)]; exact ⟨_, List.getElem?_eq_getElem (by rw [List.length_set, List.length_set]; have := HLen.out; omega)⟩
        obtain ⟨HR5, HG5⟩ : Hid ((v4.setCell ⟨g, j * 5 + 2, none⟩ (.string (mkT k2))).ownsRow 0 33 5 (.slice (some ⟨g, 0, none⟩) N c) N ((((ecells Ej).set (j * 5) (.int .i64 kk)).set (j * 5 + 1) (.string (mkT k1))).set (j * 5 + 2) (.string (mkT k2)))) ∧ Hid (wr.grownBy (v4.setCell ⟨g, j * 5 + 2, none⟩ (.string (mkT k2))) (some g)) :=
          ⟨Lib.hid (HR4.out.stored _ _).1, Lib.hid (gb_trans' HG4.out (HR4.out.stored _ _).2)⟩
        clear b4 HR3 HG3 HR4 HG4
        go_wp2_with fail
        generalize v4.setCell ⟨g, j * 5 + 2, none⟩ (.string (mkT k2)) = v5 at *
        clear hf2 hu2
        refine (HT3.out _).mono ?_
        rintro _ v6 ⟨rfl, b6⟩
        have HR6 := Lib.hid (own_kept HR5.out b6)
        have HG6 := Lib.hid (gb_more' HG5.out b6)
        have hf3 := World.ownsRow.frozenAt HR6.out (j * 5 + 3)
        obtain ⟨u3, hu3⟩ : ∃ u, v6.cell? ⟨g, j * 5 + 3, none⟩ = some u := by rw [World.ownsRow.cellAt HR6.out (j * 5 + 3) (by omega)]; exact ⟨_, List.getElem?_eq_getElem (by rw [List.length_set, List.length_set, List.length_set]; have := HLen.out; omega)⟩
        obtain ⟨HR7, HG7⟩ : Hid ((v6.setCell ⟨g, j * 5 + 3, none⟩ (.string (mkT k3))).ownsRow 0 33 5 (.slice (some ⟨g, 0, none⟩) N c) N (ecells (Ej.set j ⟨.mk kk (mkT k1) (mkT k2) (mkT k3) x.ps, B, ce⟩))) ∧ Hid (wr.grownBy (v6.setCell ⟨g, j * 5 + 3, none⟩ (.string (mkT k3))) (some g)) :=
          ⟨Lib.hid (by rw [← ecells_set HE.out]; exact (HR6.out.stored _ _).1), Lib.hid (gb_trans' HG6.out (HR6.out.stored _ _).2)⟩
        have HC4 : Hid ((v6.setCell ⟨g, j * 5 + 3, none⟩ (.string (mkT k3))).cell? ⟨g, j * 5 + 4, none⟩ = some (.slice B x.ps.length ce)) := Lib.hid (by
          rw [World.ownsRow.cellAt HR7.out (j * 5 + 4) (by omega), ecells_at (e := ⟨.mk kk (mkT k1) (mkT k2) (mkT k3) x.ps, B, ce⟩) (by rw [List.getElem?_set_self (by rw [HEl.out]; exact hlt)]) 4 (by decide)]
          rfl)
        have HOj : Hid (OwL d' (v6.setCell ⟨g, j * 5 + 3, none⟩ (.string (mkT k3))) B ce x.ps f) := Lib.hid (by
          have h1 := HCh.out j _ f HE.out HFj.out
          exact h1.keep (fun b hb => HG7.out.block b (h1.lt b hb) (fun e => by cases e; exact HgF.out (mem_flat HFj.out hb))))
        clear b6 HR5 HG5 HR6 HG6
        have c4 := HC4.out
        go_wp2_with fail
        generalize v6.setCell ⟨g, j * 5 + 3, none⟩ (.string (mkT k3)) = v7 at *
        clear hf3 hu3
        refine (HI.out x.ps B ce x.ps.length f k4 v7 HOj.out (flat_nodup HnF.out HFj.out) rfl (by omega) (by omega)).mono ?_
        rintro _ v8 ⟨rfl, o8, f8⟩
        clear c4
        go_wp2_with fail
        go_roundw
        case rel =>
          have hkE : k4 + 4 * cntS x.ps = kk + 4 * cntT x := by rw [cntT_eq]; have := Hks.out; omega
          refine ⟨j + 1, k4 + 4 * cntS x.ps, by omega, by go_num, rfl, by omega, by omega, Lib.hid ?_, Lib.hid ?_, Lib.hid ?_⟩
          · rw [hkE, HKj.out, cntS_take HX.out]; omega
          · have hmk : mkX kk x = .mk kk (mkT k1) (mkT k2) (mkT k3) (mkS k4 x.ps) := by rw [mkX_eq, Hks.out.1, Hks.out.2.1, Hks.out.2.2.1, Hks.out.2.2.2]
            refine ⟨Ej.set j ⟨mkX kk x, B, ce⟩, by rw [List.length_set, HEl.out], ?_, ?_, ?_⟩
            · rw [List.map_set, HEm.out, mkS_take HX.out, ← HKj.out]
              have hl : (mkS k (L.take j)).length = j := by rw [mkS_len, List.length_take]; omega
              rw [List.set_append_right _ _ (by omega), hl, Nat.sub_self, List.drop_eq_getElem_cons hjx, List.set_cons_zero, List.append_assoc]
              rfl
            · have h1 : v7.ownsRow 0 33 5 (.slice (some ⟨g, 0, none⟩) N c) N (ecells (Ej.set j ⟨mkX kk x, B, ce⟩)) := by
                rw [ecells_same (b := ⟨.mk kk (mkT k1) (mkT k2) (mkT k3) x.ps, B, ce⟩) (by rw [hmk]; simp [El.cells, Tr.op, Tr.wd, Tr.tx, Tr.af, Tr.ps, mkS_len])]
                exact HR7.out
              refine own_heap h1 (f8.block g ?_ (fun h => HgF.out (mem_flat HFj.out h)))
              rcases h1.2 with ⟨h', _⟩ | ⟨g', _, cur, h', _, hg, _⟩
              · simp at h'
              · simp only [Value.slice.injEq, Option.some.injEq, Addr.mk.injEq, and_true, true_and] at h'
                rw [h'.1]
                exact (Array.getElem?_eq_some_iff.1 hg).1
            · intro i ei fi hei hfi
              rcases Nat.lt_trichotomy i j with hij | hij | hij
              · rw [List.getElem?_set_ne (by omega)] at hei
                have h1 := HCh.out i ei fi hei hfi
                have h2 := h1.keep (fun b hb => HG7.out.block b (h1.lt b hb) (fun e => by cases e; exact HgF.out (mem_flat hfi hb)))
                exact f8.own h2 (flat_apart HnF.out hfi HFj.out (by omega))
              · subst hij
                rw [List.getElem?_set_self (by rw [HEl.out]; exact hlt)] at hei
                cases hei
                have : fi = f := Option.some.inj (hfi.symm.trans HFj.out)
                subst this
                rw [hmk]
                exact o8
              · rw [List.getElem?_set_ne (by omega)] at hei
                have h1 := HCh.out i ei fi hei hfi
                have h2 := h1.keep (fun b hb => HG7.out.block b (h1.lt b hb) (fun e => by cases e; exact HgF.out (mem_flat hfi hb)))
                exact f8.own h2 (flat_apart HnF.out hfi HFj.out (by omega))
          · exact (HOu.out.trans (OutF.of_grown HG7.out (List.mem_cons_self ..))).trans (f8.mono (fun b hb => List.mem_cons_of_mem _ (mem_flat HFj.out hb)))
        case measure => simp [intOf]; omega
      · obtain rfl : j = N := by omega
        have hdn : L.length ≤ j := by have := HN.out; omega
        have htk : L.take j = L := List.take_of_length_le hdn
        have HF : Hid (kk = k + 4 * cntS L) := Lib.hid (by rw [HKj.out, htk])
        have HR : Hid (OwL (d' + 1) wr (some ⟨g, 0, none⟩) c (mkS k L) (g :: Fs.flatten)) := Lib.hid (by
          obtain ⟨Ej, hEl, hEm, hrow, hch⟩ := HSt.out
          rw [htk, List.drop_eq_nil_of_le hdn, List.append_nil] at hEm
          exact Or.inr ⟨g, Ej, Fs, rfl, by rw [mkS_len, HN.out]; exact hrow, hEm, rfl, by rw [HFl.out, hEl], hch⟩)
        clear htk hdn
        go_wp2_with fail
        go_ret
        exact ⟨by rw [HF.out]; rfl, HR.out, HOu.out⟩
theorem markL_all (d : Nat) : MarkL d := by
  induction d with
  | zero => exact markL_step 0 (fun d' h => by omega)
  | succ d ih => exact markL_step (d + 1) (fun d' h => by have e : d' = d := (by omega); subst e; exact ih)
end Go.Proofs.YtbibjcmfgpmddaaDoor.Nd
