/-
  Contracts of the laws' helpers over nodes and styles: toNode, toNodeS, toStyle; eqNode, eqNodeS, eqStyle of two that read alike.
-/
import Derived.Test.YtbibjcmfgpmddaaDoorNdZ
import Derived.Deep.RegionHeld3
import Derived.Deep.QuietTactic
import Derived.BigQuiet
import Derived.Maps.AppendAt
import Derived.Deep.Onto
namespace Go.Proofs.YtbibjcmfgpmddaaDoor.Nd
open Go.RowKit NdPl
set_option linter.unusedSimpArgs false
set_option linter.unusedVariables false

theorem bcell {W w1 : World} (hb : Below W.heap.size W w1) : (∀ b o, b < W.heap.size → w1.cell? ⟨b, o, none⟩ = W.cell? ⟨b, o, none⟩) ∧ (∀ b o, b < W.heap.size → w1.frozen? ⟨b, o, none⟩ = W.frozen? ⟨b, o, none⟩) :=
  ⟨fun b o h => hb.cell (p := ⟨b, o, none⟩) h, fun b o h => hb.frozen (p := ⟨b, o, none⟩) h⟩
/-- a block that is not F's is stored into -/
theorem own_off {d : Nat} {w : World} {A : Option Addr} {c : Nat} {L : List Tr} {F : List Nat} {B : Nat} (h : OwL d w A c L F) (hF : ∀ b ∈ F, B ≤ b) {g o : Nat} (hg : g < B) (v : Value) : OwL d (w.setCell ⟨g, o, none⟩ v) A c L F :=
  h.keep (fun b hb => Below.heap_setCell w ⟨g, o, none⟩ v b (by have := hF b hb; show b ≠ g; omega))
/-- what toNode makes: the same node, its parts in blocks of their own -/
def ToT (d : Nat) : Prop := ∀ (x : Tr) (B : Option Addr) (c : Nat) (w : World), RdL d w B x.ps → x.ps.length + szS x.ps ≤ 1048576 →
  Calls Tryd.prog 16 #[ndV x.op x.wd x.tx x.af B x.ps.length c] w fun e w' => ∃ g n F, e = .returned (ndV x.op x.wd x.tx x.af (some ⟨g, 0, none⟩) x.ps.length n) ∧ OwL d w' (some ⟨g, 0, none⟩) n x.ps F ∧ F.Nodup ∧ (∀ b ∈ F, w.heap.size ≤ b) ∧ Below w.heap.size w w'
def ToL (d : Nat) : Prop := ∀ (L : List Tr) (A : Option Addr) (c N : Nat) (w : World), RdL d w A L → L.length = N → N + szS L ≤ 1048576 →
  Calls Tryd.prog 29 #[.slice A N c] w fun e w' => ∃ F, e = .returned (.slice (some ⟨w.heap.size, 0, none⟩) N N) ∧ OwL d w' (some ⟨w.heap.size, 0, none⟩) N L F ∧ F.Nodup ∧ (∀ b ∈ F, w.heap.size ≤ b) ∧ Below w.heap.size w w'

set_option maxHeartbeats 1000000 in
theorem toT_step (d : Nat) (hL : ToL d) : ToT d := by
  intro x B c w hr hz
  obtain ⟨op, wd, tx, af, ps⟩ := x
  simp only [Tr.op, Tr.wd, Tr.tx, Tr.af, Tr.ps] at *
  have HC := Lib.hid (fun w1 hb => hL ps B c ps.length w1 (hr.below hb) rfl hz)
  clear hr hz
  generalize ps.length = n at *
  go_enter Tryd.func16, Tryd.ntmps16
  go_wp2_with fail
  have hb0 : Below w.heap.size w (((w.alloc (.cells #[.int .i64 op, .string wd, .string tx, .string af, .slice B n c] 24)).alloc (.cells #[.int .i64 0, .string ⟨#[]⟩, .string ⟨#[]⟩, .string ⟨#[]⟩, .slice none 0 0] 33)).alloc (.cells #[.int .i64 op, .string wd, .string tx, .string af, .slice none 0 0] 33)) :=
    (((Below.refl _ w).alloc (Nat.le_refl _) _).alloc (by simp) _).alloc (by simp; omega) _
  refine (HC.out _ hb0).mono ?_
  rintro e w1 ⟨F, rfl, ho, hn, hF, b1⟩
  have O1 := Lib.hid ho
  have HF := Lib.hid hF
  have HN := Lib.hid hn
  clear ho hF hn HC
  obtain ⟨hc, hf⟩ := bcell b1
  have hz := b1.size
  simp at hz
  go_wp2_with fail
  refine bodyPost_ret (v := ndV op wd tx af (some ⟨w.heap.size + 1 + 1 + 1, 0, none⟩) n n) (by simp [results, Tryd.results16, go_sem, hc]) rfl ⟨_, _, F, rfl, ?_, HN.out, fun b hb => ?_, ?_⟩
  · have O2 := O1.out
    have hF2 : ∀ b ∈ F, w.heap.size + 3 ≤ b := fun b hb => by have := HF.out b hb; simp at this; omega
    iterate 6 (refine own_off ?_ hF2 (by simp) _)
    simpa using O2
  · have := HF.out b hb
    simp at this
    omega
  · have B1 := hb0.trans (b1.mono (by simp; omega))
    iterate 6 (refine Below.setCell ?_ (by simp <;> omega) _)
    exact B1

theorem infoNd : (Tryd.prog.info? 33).map (fun i => (i.zero, i.size, i.bytes)) = some (some (.agg #[.int .i64 0, .string ByteArray.empty, .string ByteArray.empty, .string ByteArray.empty, .slice none 0 0]), 5, 80) := by kernel_rfl
theorem info_parts {P : Program} {t : TypeId} {z : Option Value} {a b : Nat} (h : (P.info? t).map (fun i => (i.zero, i.size, i.bytes)) = some (z, a, b)) : ∃ i, P.info? t = some i ∧ i.zero = z ∧ i.size = a ∧ i.bytes = b := by
  cases e : P.info? t with
  | none => rw [e] at h; cases h
  | some i => rw [e] at h; cases h; exact ⟨i, rfl, rfl, rfl, rfl⟩
/-- the first nodes of a row of a call's own, and where their parts lie: above B -/
def Made (d : Nat) (w : World) (B : Nat) (L : List Tr) (E : List El) (Fs : List (List Nat)) : Prop :=
  E.map El.x = L ∧ Fs.length = E.length ∧ (∀ (j : Nat) e f, E[j]? = some e → Fs[j]? = some f → OwL d w e.B e.c e.x.ps f) ∧ Fs.flatten.Nodup ∧ (∀ b ∈ Fs.flatten, B ≤ b ∧ b < w.heap.size)
theorem Made.nil {d : Nat} {w : World} {B : Nat} : Made d w B [] [] [] := ⟨rfl, rfl, fun j e f he => by simp at he, by simp, fun b hb => by simp at hb⟩
theorem Made.keep {d : Nat} {w w' : World} {B : Nat} {L : List Tr} {E : List El} {Fs : List (List Nat)} (h : Made d w B L E Fs) (hs : w.heap.size ≤ w'.heap.size) (hb : ∀ b, B ≤ b → b < w.heap.size → w'.heap[b]? = w.heap[b]?) : Made d w' B L E Fs := by
  obtain ⟨h1, h2, h3, h4, h5⟩ := h
  refine ⟨h1, h2, fun j e f he hf => (h3 j e f he hf).keep (fun b hbf => ?_), h4, fun b hb => ⟨(h5 b hb).1, Nat.lt_of_lt_of_le (h5 b hb).2 hs⟩⟩
  have := h5 b (mem_flat hf hbf)
  exact hb b this.1 this.2
theorem get_snoc {α : Type} {l : List α} {a b : α} {j : Nat} (h : (l ++ [a])[j]? = some b) : l[j]? = some b ∨ (j = l.length ∧ a = b) := by
  rcases Nat.lt_trichotomy j l.length with hj | hj | hj
  · rw [List.getElem?_append_left hj] at h; exact .inl h
  · subst hj
    rw [List.getElem?_append_right (Nat.le_refl _), Nat.sub_self] at h
    exact .inr ⟨rfl, by simpa using h⟩
  · rw [List.getElem?_eq_none (by simp; omega)] at h; cases h
theorem Made.snoc {d : Nat} {w w' : World} {B : Nat} {L : List Tr} {E : List El} {Fs : List (List Nat)} {x : Tr} {A : Option Addr} {c : Nat} {F : List Nat} (h : Made d w B L E Fs) (hb : Below w.heap.size w w') (hB : B ≤ w.heap.size) (ho : OwL d w' A c x.ps F) (hn : F.Nodup) (hF : ∀ b ∈ F, w.heap.size ≤ b) : Made d w' B (L ++ [x]) (E ++ [⟨x, A, c⟩]) (Fs ++ [F]) := by
  obtain ⟨h1, h2, h3, h4, h5⟩ := h
  refine ⟨by simp [h1], by simp [h2], fun j e f he hf => ?_, ?_, fun b hb' => ?_⟩
  · rcases get_snoc he with he | ⟨e1, rfl⟩
    · have hj : j < E.length := (List.getElem?_eq_some_iff.1 he).1
      rcases get_snoc hf with hf | ⟨e2, _⟩
      · exact (h3 j e f he hf).below hb
      · omega
    · rcases get_snoc hf with hf | ⟨_, rfl⟩
      · have := (List.getElem?_eq_some_iff.1 hf).1
        omega
      · exact ho
  · rw [List.flatten_append, List.nodup_append]
    refine ⟨h4, by simpa using hn, fun a ha b hb' e => ?_⟩
    have := (h5 a ha).2
    have := hF b (by simpa using hb')
    omega
  · rw [List.flatten_append, List.mem_append] at hb'
    rcases hb' with hb' | hb'
    · exact ⟨(h5 b hb').1, Nat.lt_of_lt_of_le (h5 b hb').2 hb.size⟩
    · have hbF : b ∈ F := by simpa using hb'
      exact ⟨Nat.le_trans hB (hF b hbF), ho.lt b hbF⟩

set_option maxHeartbeats 2000000 in
theorem toL_step (d : Nat) (hT : ∀ d', d = d' + 1 → ToT d') : ToL d := by
  intro L A c N w h hn hm
  obtain ⟨i0, hi, hz0, hz1, hz2⟩ := info_parts infoNd
  have H := Lib.hid h
  have HN := Lib.hid hn
  have HM := Lib.hid hm
  have hNm : N ≤ 1048576 := by omega
  clear h hn hm
  have hmk : (Instr.makeSlice 31 (.int .i64 N) (.int .i64 N)).run Tryd.prog w = .ok (.slice (some ⟨w.heap.size, 0, none⟩) N N) (w.alloc (.cells (madeCells #[.int .i64 0, .string ByteArray.empty, .string ByteArray.empty, .string ByteArray.empty, .slice none 0 0] (N * 5)) 33)) := by
    have h := run_make (P := Tryd.prog) w 31 33 i0 (.agg #[.int .i64 0, .string ByteArray.empty, .string ByteArray.empty, .string ByteArray.empty, .slice none 0 0]) Tryd.underlying31 hi hz0 .i64 .i64 (N : Int) (N : Int) (by omega) (Int.le_refl _) (by rw [hz2]; omega) (by omega)
    rw [Int.toNat_natCast] at h
    simpa [hz1, Value.cells] using h
  have hown0 := World.ownsRow_lit (base := w.heap.size) (e := 33) (size := 5) w (madeCells #[.int .i64 0, .string ByteArray.empty, .string ByteArray.empty, .string ByteArray.empty, .slice none 0 0] (N * 5)) N (Nat.le_refl _) (by unfold maxLen; omega) (size_madeCells _ _)
  have hb0 : Below w.heap.size w (w.alloc (.cells (madeCells #[.int .i64 0, .string ByteArray.empty, .string ByteArray.empty, .string ByteArray.empty, .slice none 0 0] (N * 5)) 33)) := (Below.refl _ w).alloc (Nat.le_refl _) _
  have hs0 : w.heap.size < (w.alloc (.cells (madeCells #[.int .i64 0, .string ByteArray.empty, .string ByteArray.empty, .string ByteArray.empty, .slice none 0 0] (N * 5)) 33)).heap.size := by simp
  generalize w.alloc (.cells (madeCells #[.int .i64 0, .string ByteArray.empty, .string ByteArray.empty, .string ByteArray.empty, .slice none 0 0] (N * 5)) 33) = w1 at *
  generalize hZ : (madeCells #[.int .i64 0, .string ByteArray.empty, .string ByteArray.empty, .string ByteArray.empty, .slice none 0 0] (N * 5)).toList = Z at *
  have HZl : Hid (Z.length = N * 5) := Lib.hid (by rw [← hZ, Array.length_toList, size_madeCells])
  clear hZ
  have HO := Lib.hid hown0
  have HS0 := Lib.hid hs0
  clear hown0 hs0
  go_enter Tryd.func29, Tryd.ntmps29
  go_wp2_with fail
  clear hmk
  go_loopw [4] (fun i wr => ∃ (k : Nat), k ≤ N ∧ i = .int .i64 k ∧ Hid (∃ E Fs, wr.ownsRow w.heap.size 33 5 (.slice (some ⟨w.heap.size, 0, none⟩) N N) N (ecells E ++ Z.drop (k * 5)) ∧ Made (d - 1) wr (w.heap.size + 1) (L.take k) E Fs ∧ w.heap.size < wr.heap.size) ∧ Below w.heap.size w wr) (fun i _ => N - (intOf i).toNat)
  case atStart => exact ⟨0, Nat.zero_le _, rfl, Lib.hid ⟨[], [], by simpa [ecells] using HO.out, Made.nil, HS0.out⟩, hb0⟩
  case round =>
    obtain ⟨k, hk, rfl, ho, hb⟩ := hrel
    by_cases hlt : k < N
    · have hkx : k < L.length := by rw [HN.out]; exact hlt
      have hx? := List.getElem?_eq_getElem hkx
      obtain ⟨d', g, o, B, cc, hd, rfl, hg, c0, c1, c2, c3, c4, hr⟩ := (H.out.below hb).get hx?
      subst hd
      have HX : Hid (L.take (k + 1) = L.take k ++ [L[k]]) := Lib.hid (by rw [List.take_add_one, hx?]; rfl)
      have hzx := szS_mem hx?
      rw [szT_eq] at hzx
      have hzm := HM.out
      clear hx?
      generalize L[k] = x at *
      have HC := Lib.hid (hT d' rfl x B cc wr hr (by omega))
      clear hr hzx hzm
      go_wp2_with fail
      refine HC.out.mono ?_
      rintro e w2 ⟨g2, n2, F2, rfl, o2, nd2, f2, b2⟩
      obtain ⟨E, Fs, ho1, hMd, hsz⟩ := ho.out
      have ho2 := own_kept ho1 b2
      have hzl := HZl.out
      have hEl : E.length = k := by have := congrArg List.length hMd.1; simp at this; omega
      have hall : (ecells E ++ Z.drop (k * 5)).length = N * 5 := by rw [List.length_append, ecells_len, List.length_drop, hEl]; omega
      have hfz := fun j => World.ownsRow.frozenAt ho2 j
      have hce : ∀ j, j < N * 5 → ∃ u, w2.cell? ⟨w.heap.size, j, none⟩ = some u := fun j hj => by rw [World.ownsRow.cellAt ho2 j hj]; exact ⟨_, List.getElem?_eq_getElem (by omega)⟩
      have z0 := hfz (k * 5)
      have z1 := hfz (k * 5 + 1)
      have z2 := hfz (k * 5 + 2)
      have z3 := hfz (k * 5 + 3)
      have z4 := hfz (k * 5 + 4)
      obtain ⟨u0, v0⟩ := hce (k * 5) (by omega)
      obtain ⟨u1, v1⟩ := hce (k * 5 + 1) (by omega)
      obtain ⟨u2, v2⟩ := hce (k * 5 + 2) (by omega)
      obtain ⟨u3, v3⟩ := hce (k * 5 + 3) (by omega)
      obtain ⟨u4, v4⟩ := hce (k * 5 + 4) (by omega)
      have HO2 := Lib.hid (own_set5 ho2 ⟨x, some ⟨g2, 0, none⟩, n2⟩ hEl (by omega))
      have hMd2 := hMd.snoc b2 hsz o2 nd2 f2
      have hb2 := hb.trans (b2.mono hb.size)
      have hsz2 := Nat.lt_of_lt_of_le hsz b2.size
      have HM2 := Lib.hid hMd2
      have HS2 := Lib.hid hsz2
      clear hMd2 hMd ho ho1 ho2 b2 hall hzl hb hfz hce hsz hsz2 o2 nd2 f2 HC
      go_wp2_with fail
      go_roundw
      case rel =>
        refine ⟨k + 1, by omega, by go_num, ?_, ?_⟩
        · refine Lib.hid ⟨E ++ [⟨x, some ⟨g2, 0, none⟩, n2⟩], Fs ++ [F2], HO2.out, ?_, ?_⟩
          · rw [HX.out]
            refine HM2.out.keep (by simp) (fun b hb hb' => ?_)
            iterate 5 (rw [Below.heap_setCell _ _ _ _ (by show b ≠ w.heap.size; omega)])
          · have := HS2.out
            simpa using this
        · iterate 5 (refine Below.setCell ?_ (by simp) _)
          exact hb2
      case measure => simp [intOf]; omega
    · obtain rfl : k = N := by omega
      go_wp2_with fail
      go_ret
      obtain ⟨E, Fs, ho1, hMd, hsz⟩ := ho.out
      obtain ⟨h1, h2, h3, h4, h5⟩ := hMd
      have hEl : E.length = k := by have := congrArg List.length h1; simp at this; have := HN.out; omega
      have hE : E.map El.x = L := by rw [h1]; exact List.take_of_length_le (by rw [HN.out]; omega)
      have hrow : wr.ownsRow w.heap.size 33 5 (.slice (some ⟨w.heap.size, 0, none⟩) k k) k (ecells E) := by
        rw [List.drop_eq_nil_of_le (by have := HZl.out; omega), List.append_nil] at ho1
        exact ho1
      rcases Nat.eq_zero_or_pos d with rfl | hd
      · refine ⟨[], rfl, ?_, List.nodup_nil, fun b hb => (by cases hb), hb⟩
        have : L = [] := H.out
        exact (show L = [] ∧ ([] : List Nat) = [] from ⟨this, rfl⟩)
      · obtain ⟨d', rfl⟩ : ∃ d', d = d' + 1 := ⟨d - 1, by omega⟩
        refine ⟨w.heap.size :: Fs.flatten, rfl, Or.inr ⟨w.heap.size, E, Fs, rfl, ?_, hE, rfl, h2, h3⟩, ?_, ?_, hb⟩
        · rw [HN.out]
          exact World.ownsRow.mono hrow (Nat.zero_le _)
        · refine List.nodup_cons.2 ⟨fun hm => ?_, h4⟩
          have := (h5 _ hm).1
          omega
        · intro b hb'
          rcases List.mem_cons.1 hb' with rfl | hb'
          · exact Nat.le_refl _
          · have := (h5 _ hb').1
            omega

theorem toL_all (d : Nat) : ToL d := by
  induction d with
  | zero => exact toL_step 0 (fun d' h => by omega)
  | succ d ih => exact toL_step (d + 1) (fun d' h => by have e : d' = d := (by omega); subst e; exact toT_step _ ih)
theorem toT_all (d : Nat) : ToT d := toT_step d (toL_all d)

set_option maxHeartbeats 1000000 in
theorem toStyle (d : Nat) (nm : Int) (x : Tr) (B : Option Addr) (c : Nat) (w : World) (hr : RdL d w B x.ps) (hz : x.ps.length + szS x.ps ≤ 1048576) :
    Calls Tryd.prog 6 #[stV nm x.op x.wd x.tx x.af B x.ps.length c] w fun e w' => ∃ g n F, e = .returned (stV nm x.op x.wd x.tx x.af (some ⟨g, 0, none⟩) x.ps.length n) ∧ OwL d w' (some ⟨g, 0, none⟩) n x.ps F ∧ F.Nodup ∧ (∀ b ∈ F, w.heap.size ≤ b) ∧ Below w.heap.size w w' := by
  have HC := Lib.hid (fun w1 hb => toT_all d x B c w1 (hr.below hb) hz)
  obtain ⟨op, wd, tx, af, ps⟩ := x
  simp only [Tr.op, Tr.wd, Tr.tx, Tr.af, Tr.ps] at *
  clear hr hz
  generalize ps.length = n at *
  go_enter Tryd.func6, Tryd.ntmps6
  go_wp2_with fail
  have hb0 : Below w.heap.size w (((w.alloc (.cells #[.int .i64 nm, .int .i64 op, .string wd, .string tx, .string af, .slice B n c] 26)).alloc (.cells #[.int .i64 0, .int .i64 0, .string ⟨#[]⟩, .string ⟨#[]⟩, .string ⟨#[]⟩, .slice none 0 0] 35)).alloc (.cells #[.int .i64 nm, .int .i64 0, .string ⟨#[]⟩, .string ⟨#[]⟩, .string ⟨#[]⟩, .slice none 0 0] 35)) :=
    (((Below.refl _ w).alloc (Nat.le_refl _) _).alloc (by simp) _).alloc (by simp; omega) _
  refine (HC.out _ hb0).mono ?_
  rintro e w1 ⟨g, n2, F, rfl, ho, hn, hF, b1⟩
  have O1 := Lib.hid ho
  have HF := Lib.hid hF
  have HN := Lib.hid hn
  clear ho hF hn HC
  obtain ⟨hc, hf⟩ := bcell b1
  have hz := b1.size
  simp at hz
  go_wp2_with fail
  refine bodyPost_ret (v := stV nm op wd tx af (some ⟨g, 0, none⟩) n n2) (by simp [results, Tryd.results6, go_sem, hc]) rfl ⟨g, n2, F, rfl, ?_, HN.out, fun b hb => ?_, ?_⟩
  · have O2 := O1.out
    have hF2 : ∀ b ∈ F, w.heap.size + 3 ≤ b := fun b hb => by have := HF.out b hb; simp at this; omega
    iterate 11 (refine own_off ?_ hF2 (by simp) _)
    exact O2
  · have := HF.out b hb
    simp at this
    omega
  · have B1 := hb0.trans (b1.mono (by simp; omega))
    iterate 11 (refine Below.setCell ?_ (by simp <;> omega) _)
    exact B1

/-- nothing of W has changed in w' -/
def Kp (W w' : World) : Prop := Below W.heap.size W w'
theorem Kp.drew (W : World) : Kp W W.drew := (Below.refl _ _).drew
theorem Kp.next {W w1 w2 : World} (h : Kp W w1) (h2 : Below w1.heap.size w1 w2) : Kp W w2 := Below.trans h (h2.mono (Below.size h))
def EqT (d : Nat) : Prop := ∀ (x : Tr) (A B : Option Addr) (c c' : Nat) (w : World), RdL d w A x.ps → RdL d w B x.ps → x.ps.length + szS x.ps ≤ 1048576 →
  Calls Tryd.prog 21 #[ndV x.op x.wd x.tx x.af A x.ps.length c, ndV x.op x.wd x.tx x.af B x.ps.length c'] w fun e w' => e = .returned (.bool true) ∧ Below w.heap.size w w'
def EqL (d : Nat) : Prop := ∀ (L : List Tr) (A B : Option Addr) (c c' N : Nat) (w : World), RdL d w A L → RdL d w B L → L.length = N → N + szS L ≤ 1048576 →
  Calls Tryd.prog 33 #[.slice A N c, .slice B N c'] w fun e w' => e = .returned (.bool true) ∧ Below w.heap.size w w'
set_option maxHeartbeats 1000000 in
theorem eqT_step (d : Nat) (hL : EqL d) : EqT d := by
  intro x A B c c' w ha hb hz
  obtain ⟨op, wd, tx, af, ps⟩ := x
  simp only [Tr.op, Tr.wd, Tr.tx, Tr.af, Tr.ps] at *
  have HC := Lib.hid (fun w1 h => hL ps A B c c' ps.length w1 (ha.below h) (hb.below h) rfl hz)
  clear ha hb hz
  generalize ps.length = n at *
  go_enter Tryd.func21, Tryd.ntmps21
  go_wp2_with fail
  have hb0 : Below w.heap.size w ((w.alloc (.cells #[.int .i64 op, .string wd, .string tx, .string af, .slice A n c] 33)).alloc (.cells #[.int .i64 op, .string wd, .string tx, .string af, .slice B n c'] 33)) :=
    ((Below.refl _ w).alloc (Nat.le_refl _) _).alloc (by simp) _
  refine (HC.out _ hb0).mono ?_
  rintro e w1 ⟨rfl, b1⟩
  have B1 := hb0.trans (b1.mono (by simp; omega))
  go_wp2_with fail
  go_ret
  exact ⟨rfl, B1⟩
set_option maxHeartbeats 1000000 in
theorem eqL_step (d : Nat) (hT : ∀ d', d = d' + 1 → EqT d') : EqL d := by
  intro L A B c c' N w h h' hn hm
  have H := Lib.hid h
  have H' := Lib.hid h'
  have HN := Lib.hid hn
  have HM := Lib.hid hm
  have hNm : N ≤ 1048576 := by omega
  clear h h' hn hm
  go_enter Tryd.func33, Tryd.ntmps33
  go_wp2_with fail
  go_loopw [5] (fun i wr => ∃ k : Nat, k ≤ N ∧ i = .int .i64 k ∧ Below w.heap.size w wr) (fun i _ => N - (intOf i).toNat)
  case atStart => exact ⟨0, Nat.zero_le _, rfl, Below.refl _ _⟩
  case round =>
    obtain ⟨k, hk, rfl, hb⟩ := hrel
    by_cases hlt : k < N
    · have hkx : k < L.length := by rw [HN.out]; exact hlt
      have hx? := List.getElem?_eq_getElem hkx
      obtain ⟨d', g, o, C, cc, hd, rfl, hg, c0, c1, c2, c3, c4, hr⟩ := (H.out.below hb).get hx?
      obtain ⟨d2, g', o', C', cc', hd2, rfl, hg', e0, e1, e2, e3, e4, hr'⟩ := (H'.out.below hb).get hx?
      subst hd
      obtain rfl : d2 = d' := by omega
      have hzx := szS_mem hx?
      rw [szT_eq] at hzx
      have hzm := HM.out
      clear hx? hd2
      generalize L[k] = x at *
      have HC := Lib.hid (fun w1 (h : Kp wr w1) => hT d2 rfl x C C' cc cc' w1 (hr.below h) (hr'.below h) (by omega))
      clear hr hr' hzx hzm
      obtain ⟨op, wd, tx, af, ps⟩ := x
      simp only [Tr.op, Tr.wd, Tr.tx, Tr.af, Tr.ps] at *
      generalize ps.length = n at *
      have HS : Hid (∀ w', Kp wr w' → ((w'.cell? ⟨g, o + k * 5, none⟩ = some (.int .i64 op) ∧ w'.cell? ⟨g, o + k * 5 + 1, none⟩ = some (.string wd) ∧ w'.cell? ⟨g, o + k * 5 + 2, none⟩ = some (.string tx) ∧ w'.cell? ⟨g, o + k * 5 + 3, none⟩ = some (.string af) ∧ w'.cell? ⟨g, o + k * 5 + 4, none⟩ = some (.slice C n cc) ∧ w'.cell? ⟨g', o' + k * 5, none⟩ = some (.int .i64 op) ∧ w'.cell? ⟨g', o' + k * 5 + 1, none⟩ = some (.string wd) ∧ w'.cell? ⟨g', o' + k * 5 + 2, none⟩ = some (.string tx) ∧ w'.cell? ⟨g', o' + k * 5 + 3, none⟩ = some (.string af) ∧ w'.cell? ⟨g', o' + k * 5 + 4, none⟩ = some (.slice C' n cc')) ∧ Kp wr w')) := Lib.hid (fun w' h => by
        have hc : ∀ i, w'.cell? ⟨g, i, none⟩ = wr.cell? ⟨g, i, none⟩ := fun i => Below.cell h (p := ⟨g, i, none⟩) hg
        have hc' : ∀ i, w'.cell? ⟨g', i, none⟩ = wr.cell? ⟨g', i, none⟩ := fun i => Below.cell h (p := ⟨g', i, none⟩) hg'
        exact ⟨⟨(hc _).trans c0, (hc _).trans c1, (hc _).trans c2, (hc _).trans c3, (hc _).trans c4, (hc' _).trans e0, (hc' _).trans e1, (hc' _).trans e2, (hc' _).trans e3, (hc' _).trans e4⟩, h⟩)
      have HK0 := Lib.hid (Kp.drew wr)
      clear c0 c1 c2 c3 c4 e0 e1 e2 e3 e4
      go_wp2_with fail
      go_region_held3 (fun w' => (w'.cell? ⟨g, o + k * 5, none⟩ = some (.int .i64 op) ∧ w'.cell? ⟨g, o + k * 5 + 1, none⟩ = some (.string wd) ∧ w'.cell? ⟨g, o + k * 5 + 2, none⟩ = some (.string tx) ∧ w'.cell? ⟨g, o + k * 5 + 3, none⟩ = some (.string af) ∧ w'.cell? ⟨g, o + k * 5 + 4, none⟩ = some (.slice C n cc) ∧ w'.cell? ⟨g', o' + k * 5, none⟩ = some (.int .i64 op) ∧ w'.cell? ⟨g', o' + k * 5 + 1, none⟩ = some (.string wd) ∧ w'.cell? ⟨g', o' + k * 5 + 2, none⟩ = some (.string tx) ∧ w'.cell? ⟨g', o' + k * 5 + 3, none⟩ = some (.string af) ∧ w'.cell? ⟨g', o' + k * 5 + 4, none⟩ = some (.slice C' n cc')) ∧ Kp wr w')
        (first | exact HS.out _ HK0.out | exact HS.out _ (by assumption))
        (first
          | (go_at_call 21; refine (HC.out _ (by first | exact HK0.out | assumption)).mono ?_; rintro e w1 ⟨rfl, b1⟩; have hk1 : Kp wr w1 := Kp.next HK0.out b1))
      have hb1 := hb.trans (Below.mono hk1 hb.size)
      clear HS HK0 hk1 b1 HC
      (try clear hHeld)
      go_wp2_with fail
      go_roundw
      case rel => exact ⟨k + 1, by omega, by go_num, hb1⟩
      case measure => simp [intOf]; omega
    · go_wp2_with fail
      go_ret
      exact ⟨rfl, hb⟩
theorem eqL_all (d : Nat) : EqL d := by
  induction d with
  | zero => exact eqL_step 0 (fun d' h => by omega)
  | succ d ih => exact eqL_step (d + 1) (fun d' h => by have e : d' = d := (by omega); subst e; exact eqT_step _ ih)
theorem eqT_all (d : Nat) : EqT d := eqT_step d (eqL_all d)
set_option maxHeartbeats 1000000 in
theorem eqStyle (d : Nat) (nm : Int) (x : Tr) (A B : Option Addr) (c c' : Nat) (w : World) (ha : RdL d w A x.ps) (hb : RdL d w B x.ps) (hz : x.ps.length + szS x.ps ≤ 1048576) :
    Calls Tryd.prog 9 #[stV nm x.op x.wd x.tx x.af A x.ps.length c, stV nm x.op x.wd x.tx x.af B x.ps.length c'] w fun e w' => e = .returned (.bool true) ∧ Below w.heap.size w w' := by
  have HC := Lib.hid (fun w1 h => eqT_all d x A B c c' w1 (ha.below h) (hb.below h) hz)
  obtain ⟨op, wd, tx, af, ps⟩ := x
  simp only [Tr.op, Tr.wd, Tr.tx, Tr.af, Tr.ps] at *
  clear ha hb hz
  generalize ps.length = n at *
  go_enter Tryd.func9, Tryd.ntmps9
  go_wp2_with fail
  have hb0 : Below w.heap.size w ((w.alloc (.cells #[.int .i64 nm, .int .i64 op, .string wd, .string tx, .string af, .slice A n c] 35)).alloc (.cells #[.int .i64 nm, .int .i64 op, .string wd, .string tx, .string af, .slice B n c'] 35)) :=
    ((Below.refl _ w).alloc (Nat.le_refl _) _).alloc (by simp) _
  refine (HC.out _ hb0).mono ?_
  rintro e w1 ⟨rfl, b1⟩
  have B1 := hb0.trans (b1.mono (by simp; omega))
  go_wp2_with fail
  go_ret
  exact ⟨rfl, B1⟩
end Go.Proofs.YtbibjcmfgpmddaaDoor.Nd
