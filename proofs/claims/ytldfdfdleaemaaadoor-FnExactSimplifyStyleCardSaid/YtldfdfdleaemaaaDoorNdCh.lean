/-
  Contracts of the changes that ReplaceField and ChooseKind make of a node, and of changeNode at each of them.
-/
import Derived.Test.YtldfdfdleaemaaaDoorNdC
import Derived.Test.YtldfdfdleaemaaaDoorNdF
namespace Go.Proofs.YtldfdfdleaemaaaDoor.Nd
open Go.RowKit NdPl Ns
set_option linter.unusedSimpArgs false
set_option linter.unusedVariables false

/-- block b begins with these cells and may be written -/
def Bw (W : World) (b : Nat) (vs : List Value) : Prop := Bx W b vs ∧ ∀ i, W.frozen? ⟨b, i, none⟩ = false
theorem Bw.below {W w' : World} {b : Nat} {vs : List Value} (h : Bw W b vs) (hb : Below W.heap.size W w') : Bw w' b vs :=
  ⟨h.1.below hb, fun i => (hb.frozen (p := ⟨b, i, none⟩) h.1.1).trans (h.2 i)⟩
theorem Bw.new (w : World) (cs : Array Value) (t : TypeId) : Bw (w.alloc (.cells cs t)) w.heap.size cs.toList :=
  ⟨Bx.new w cs t, fun i => by simp⟩
theorem Bw.off {W : World} {b g o : Nat} {vs : List Value} (h : Bw W b vs) (u : Value) (hne : b ≠ g) : Bw (W.setCell ⟨g, o, none⟩ u) b vs := by
  have hk : (W.setCell ⟨g, o, none⟩ u).heap[b]? = W.heap[b]? := Below.heap_setCell W ⟨g, o, none⟩ u b hne
  exact ⟨⟨by simpa using h.1.1, fun i v hv => (World.cell?_of_block (a := ⟨b, i, none⟩) hk).trans (h.1.2 i v hv)⟩, fun i => (World.frozen?_of_block (a := ⟨b, i, none⟩) hk).trans (h.2 i)⟩
theorem Bw.grown {w w' : World} {b : Nat} {vs : List Value} {row : Option Nat} (h : Bw w b vs) (hg : w.grownBy w' row) (hne : some b ≠ row) : Bw w' b vs := by
  have hk := hg.block b h.1.1 hne
  exact ⟨⟨Nat.lt_of_lt_of_le h.1.1 hg.size, fun i v hv => (World.cell?_of_block (a := ⟨b, i, none⟩) hk).trans (h.1.2 i v hv)⟩, fun i => (World.frozen?_of_block (a := ⟨b, i, none⟩) hk).trans (h.2 i)⟩
/-- what a change of a node gives: z, its parts in blocks of their own from B on -/
def NdPost (d : Nat) (w : World) (B : Nat) (z : Tr) (e : Ending) (w' : World) : Prop :=
  ∃ (A : Option Addr) (c : Nat) (F : List Nat), e = .returned (ndV z.op z.wd z.tx z.af A z.ps.length c) ∧ OwL d w' A c z.ps F ∧ F.Nodup ∧ (∀ b ∈ F, B ≤ b) ∧ Below w.heap.size w w'
theorem ba_eq {a b : ByteArray} : (a.toList == b.toList) = decide (a = b) := by
  rw [Bool.eq_iff_iff, beq_iff_eq, decide_eq_true_eq, Lib.toList_data, Lib.toList_data]
  constructor
  · intro h; rw [← Pl.ba_toList a, h, Pl.ba_toList]
  · intro h; rw [h]
/-- the node's word, where it is the one looked for, is another -/
def rpF (old fld : ByteArray) (y : Tr) : Tr := if y.wd = old then .mk y.op fld y.tx y.af y.ps else y
/-- what is chosen of a node -/
def ckF (word : ByteArray) (y : Tr) : Tr := if y.op = 5 then (if y.wd = word then y.ps.getD 0 default else y.ps.getD 1 default) else y
set_option maxRecDepth 100000 in
set_option maxHeartbeats 2000000 in
theorem clo_rp (b1 b2 : Nat) (old fld : ByteArray) (y : Tr) (A : Option Addr) (c B d : Nat) (F : List Nat) (w : World) (ho : OwL d w A c y.ps F) (hF : F.Nodup) (hB : ∀ b ∈ F, B ≤ b) (hc : Bx w b1 [.string old] ∧ Bx w b2 [.string fld]) :
    Calls Tryd.prog 24 #[ndV y.op y.wd y.tx y.af A y.ps.length c, .pointer (some ⟨b1, 0, none⟩), .pointer (some ⟨b2, 0, none⟩)] w (NdPost d w B (rpF old fld y)) := by
  have k1 := hc.1.1
  have k2 := hc.2.1
  have e1 := hc.1.2 0 _ rfl
  have e2 := hc.2.2 0 _ rfl
  obtain ⟨op, wd, tx, af, ps⟩ := y
  have HO := Lib.hid ho
  have HF := Lib.hid hF
  have HB := Lib.hid hB
  simp only [Tr.op, Tr.wd, Tr.tx, Tr.af, Tr.ps] at *
  obtain ⟨n, hn⟩ : ∃ n, n = ps.length := ⟨_, rfl⟩
  have HN := Lib.hid hn
  rw [← hn]
  clear ho hF hB hc hn
  by_cases hw : wd = old
  · have HE : Hid (rpF old fld (.mk op wd tx af ps) = .mk op fld tx af ps) := Lib.hid (if_pos hw)
    subst hw
    go_enter Tryd.func24, Tryd.ntmps24
    go_wp2_with fail
    refine bodyPost_ret (v := ndV op fld tx af A n c) (by simp [results, Tryd.results24, go_sem]) rfl ?_
    rw [HE.out]
    have b2 : ∀ o1 o2, Below w.heap.size w ((w.alloc o1).alloc o2) := fun o1 o2 => ((Below.refl _ w).alloc (Nat.le_refl _) o1).alloc (by simp) o2
    refine ⟨A, c, F, by rw [HN.out]; rfl, HO.out.below (b2 _ _), HF.out, HB.out, b2 _ _⟩
  · have HE : Hid (rpF old fld (.mk op wd tx af ps) = .mk op wd tx af ps) := Lib.hid (if_neg hw)
    have hq : (wd.toList == old.toList) = false := by rw [ba_eq]; exact decide_eq_false hw
    clear hw
    go_enter Tryd.func24, Tryd.ntmps24
    go_wp2_with fail
    refine bodyPost_ret (v := ndV op wd tx af A n c) (by simp [results, Tryd.results24, go_sem]) rfl ?_
    rw [HE.out]
    have b2 : ∀ o1 o2, Below w.heap.size w ((w.alloc o1).alloc o2) := fun o1 o2 => ((Below.refl _ w).alloc (Nat.le_refl _) o1).alloc (by simp) o2
    refine ⟨A, c, F, by rw [HN.out]; rfl, HO.out.below (b2 _ _), HF.out, HB.out, b2 _ _⟩
/-- a part of a tree of its own -/
theorem OwL.part {d : Nat} {w : World} {A : Option Addr} {c : Nat} {L : List Tr} {F : List Nat} (h : OwL (d + 1) w A c L F) (hF : F.Nodup) {j : Nat} {x : Tr} (hx : L[j]? = some x) :
    ∃ g C cc f, A = some ⟨g, 0, none⟩ ∧ g < w.heap.size ∧ w.cell? ⟨g, j * 5, none⟩ = some (.int .i64 x.op) ∧ w.cell? ⟨g, j * 5 + 1, none⟩ = some (.string x.wd) ∧ w.cell? ⟨g, j * 5 + 2, none⟩ = some (.string x.tx) ∧ w.cell? ⟨g, j * 5 + 3, none⟩ = some (.string x.af) ∧ w.cell? ⟨g, j * 5 + 4, none⟩ = some (.slice C x.ps.length cc) ∧ OwL (d + 1) w C cc x.ps f ∧ f.Nodup ∧ ∀ b ∈ f, b ∈ F := by
  have hlt := h.lt
  rcases h with ⟨h0, _⟩ | ⟨g, E, Fs, rfl, ho, hE, rfl, hl, hr⟩
  · rw [h0] at hx; simp at hx
  · have hj : j < L.length := (List.getElem?_eq_some_iff.1 hx).1
    have hEl : E.length = L.length := by rw [← hE]; simp
    have he : E[j]? = some E[j] := List.getElem?_eq_getElem (by omega)
    obtain rfl : E[j].x = x := by rw [← hE, List.getElem?_map, he] at hx; simpa using hx
    have hcell : ∀ i, i < 5 → w.cell? ⟨g, j * 5 + i, none⟩ = E[j].cells[i]? := fun i hi => (World.ownsRow.cellAt ho (j * 5 + i) (by omega)).trans (ecells_at he i hi)
    have hf : Fs[j]? = some Fs[j] := List.getElem?_eq_getElem (by omega)
    exact ⟨g, E[j].B, E[j].c, Fs[j], rfl, hlt g (List.mem_cons_self ..), hcell 0 (by decide), hcell 1 (by decide), hcell 2 (by decide), hcell 3 (by decide), hcell 4 (by decide), OwL.up (hr j _ _ he hf), flat_nodup (List.nodup_cons.1 hF).2 hf, fun b hb => List.mem_cons_of_mem _ (mem_flat hf hb)⟩
set_option maxRecDepth 100000 in
set_option maxHeartbeats 4000000 in
theorem clo_ck (b1 : Nat) (word : ByteArray) (y : Tr) (A : Option Addr) (c B d : Nat) (F : List Nat) (w : World) (ho : OwL (d + 1) w A c y.ps F) (hF : F.Nodup) (hB : ∀ b ∈ F, B ≤ b) (hc : Bx w b1 [.string word]) (hy : y.op = 5 → y.ps.length = 2) :
    Calls Tryd.prog 34 #[ndV y.op y.wd y.tx y.af A y.ps.length c, .pointer (some ⟨b1, 0, none⟩)] w (NdPost (d + 1) w B (ckF word y)) := by
  have k1 := hc.1
  have e1 := hc.2 0 _ rfl
  obtain ⟨op, wd, tx, af, ps⟩ := y
  simp only [Tr.op, Tr.wd, Tr.tx, Tr.af, Tr.ps] at *
  have b2 : ∀ o1 o2, Below w.heap.size w ((w.alloc o1).alloc o2) := fun o1 o2 => ((Below.refl _ w).alloc (Nat.le_refl _) o1).alloc (by simp) o2
  have HB2 := Lib.hid b2
  clear b2 hc
  by_cases h5 : op = 5
  · subst h5
    have hl := hy rfl
    clear hy
    by_cases hw : wd = word
    · have hx : ps[0]? = some (ps.getD 0 default) := by rw [List.getD_eq_getElem?_getD, List.getElem?_eq_getElem (by omega)]; rfl
      have HE : Hid (ckF word (.mk 5 wd tx af ps) = ps.getD 0 default) := Lib.hid (by show (if (5 : Int) = 5 then (if wd = word then ps.getD 0 default else ps.getD 1 default) else _) = _; rw [if_pos rfl, if_pos hw])
      subst hw
      generalize ps.getD 0 default = z at *
      obtain ⟨g, C, cc, f, rfl, hg, c0, c1, c2, c3, c4, hof, hnf, hmf⟩ := OwL.part (d := d) ho hF hx
      simp only [Nat.zero_mul, Nat.zero_add] at c0 c1 c2 c3 c4
      have HO := Lib.hid hof
      have HF := Lib.hid hnf
      have HB := Lib.hid (fun b hb => hB b (hmf b hb))
      rw [hl]
      rw [HE.out]
      obtain ⟨zo, zw, zt, za, zp⟩ := z
      simp only [Tr.op, Tr.wd, Tr.tx, Tr.af, Tr.ps] at c0 c1 c2 c3 c4
      obtain ⟨zn, hzn⟩ : ∃ n, n = zp.length := ⟨_, rfl⟩
      have HZ := Lib.hid hzn
      rw [← hzn] at c4
      clear ho hF hB hmf hnf hof hx hl HE hzn
      go_enter Tryd.func34, Tryd.ntmps34
      go_wp2_with fail
      refine bodyPost_ret (v := ndV zo zw zt za C zn cc) (by simp [results, Tryd.results34, go_sem]) rfl ?_
      exact ⟨C, cc, f, by rw [HZ.out]; rfl, HO.out.below (HB2.out _ _), HF.out, HB.out, HB2.out _ _⟩
    · have hx : ps[1]? = some (ps.getD 1 default) := by rw [List.getD_eq_getElem?_getD, List.getElem?_eq_getElem (by omega)]; rfl
      have HE : Hid (ckF word (.mk 5 wd tx af ps) = ps.getD 1 default) := Lib.hid (by show (if (5 : Int) = 5 then (if wd = word then ps.getD 0 default else ps.getD 1 default) else _) = _; rw [if_pos rfl, if_neg hw])
      have hq : (wd.toList == word.toList) = false := by rw [ba_eq]; exact decide_eq_false hw
      clear hw
      generalize ps.getD 1 default = z at *
      obtain ⟨g, C, cc, f, rfl, hg, c0, c1, c2, c3, c4, hof, hnf, hmf⟩ := OwL.part (d := d) ho hF hx
      simp only [Nat.one_mul] at c0 c1 c2 c3 c4
      have HO := Lib.hid hof
      have HF := Lib.hid hnf
      have HB := Lib.hid (fun b hb => hB b (hmf b hb))
      rw [hl]
      rw [HE.out]
      obtain ⟨zo, zw, zt, za, zp⟩ := z
      simp only [Tr.op, Tr.wd, Tr.tx, Tr.af, Tr.ps] at c0 c1 c2 c3 c4
      obtain ⟨zn, hzn⟩ : ∃ n, n = zp.length := ⟨_, rfl⟩
      have HZ := Lib.hid hzn
      rw [← hzn] at c4
      clear ho hF hB hmf hnf hof hx hl HE hzn
      go_enter Tryd.func34, Tryd.ntmps34
      go_wp2_with fail
      refine bodyPost_ret (v := ndV zo zw zt za C zn cc) (by simp [results, Tryd.results34, go_sem]) rfl ?_
      exact ⟨C, cc, f, by rw [HZ.out]; rfl, HO.out.below (HB2.out _ _), HF.out, HB.out, HB2.out _ _⟩
  · have HE : Hid (ckF word (.mk op wd tx af ps) = .mk op wd tx af ps) := Lib.hid (if_neg h5)
    have hq : (op == 5) = false := by rw [beq_eq_false_iff_ne]; exact h5
    have HO := Lib.hid ho
    have HF := Lib.hid hF
    have HB := Lib.hid hB
    rw [HE.out]
    obtain ⟨n, hn⟩ : ∃ n, n = ps.length := ⟨_, rfl⟩
    have HN := Lib.hid hn
    rw [← hn]
    clear ho hF hB hy hn HE
    go_enter Tryd.func34, Tryd.ntmps34
    go_wp2_with fail
    refine bodyPost_ret (v := ndV op wd tx af A n c) (by simp [results, Tryd.results34, go_sem]) rfl ?_
    exact ⟨A, c, F, by rw [HN.out]; rfl, HO.out.below (HB2.out _ _), HF.out, HB.out, HB2.out _ _⟩

/-- what changeNode answers, at the change of ReplaceField$1 -/
def ChRp (d : Nat) : Prop := ∀ (b1 b2 : Nat) (old fld : ByteArray) (x : Tr) (B : Option Addr) (c k : Nat) (w : World), RdL d w B x.ps → szT x ≤ 1048576 → okT k x = true → (Bx w b1 [.string old] ∧ Bx w b2 [.string fld]) →
  Calls Tryd.prog 44 #[ndV x.op x.wd x.tx x.af B x.ps.length c, .func (.func 24) #[] #[.pointer (some ⟨b1, 0, none⟩), .pointer (some ⟨b2, 0, none⟩)]] w (NdPost (d + 1) w w.heap.size (chT (rpF old fld) x))
set_option maxRecDepth 100000 in
set_option maxHeartbeats 4000000 in
theorem chRp_step (d : Nat) (ih : ∀ d', d = d' + 1 → ChRp d') : ChRp d := by
  intro b1 b2 old fld x B c k w hr hz hok hcn
  obtain ⟨i0, hi, hz0, hz1, hz2⟩ := info_parts infoNd
  have hzs := szT_eq x
  obtain ⟨ff, hff⟩ : ∃ ff, ff = rpF old fld := ⟨_, rfl⟩
  have HFf := Lib.hid hff
  have HI := Lib.hid ih
  have HEq : Hid (chT ff x = ff (.mk x.op x.wd x.tx x.af (chS ff x.ps))) := Lib.hid (chT_eq ff x)
  have HOk : Hid (shB x.op x.wd x.tx x.af x.ps.length = true ∧ ∃ k', x.ps.all (okT k') = true) := Lib.hid (by
    cases k with
    | zero => cases hok
    | succ k' =>
      have h : (shB x.op x.wd x.tx x.af x.ps.length && x.ps.all (okT k')) = true := hok
      rw [Bool.and_eq_true] at h
      exact ⟨h.1, k', h.2⟩)
  have HClo := Lib.hid (fun (ps : List Tr) (A : Option Addr) (c F w1) (h : ps.length = x.ps.length) (ho : OwL (d + 1) w1 A c ps F) (hF : F.Nodup) (hB : ∀ b ∈ F, w.heap.size + 2 ≤ b) (hc : (Bx w1 b1 [.string old] ∧ Bx w1 b2 [.string fld])) => clo_rp b1 b2 old fld (.mk x.op x.wd x.tx x.af ps) A c (w.heap.size + 2) (d + 1) F w1 ho hF hB hc)
  rw [← hff] at HClo ⊢
  have HCn := Lib.hid (fun w1 (h : Below w.heap.size w w1) => (show (Bx w1 b1 [.string old] ∧ Bx w1 b2 [.string fld]) from ⟨hcn.1.below h, hcn.2.below h⟩))
  obtain ⟨op, wd, tx, af, ps⟩ := x
  simp only [op_mk, wd_mk, tx_mk, af_mk, ps_mk] at *
  have HR := Lib.hid hr
  have HZs : Hid (szS ps ≤ 1048576) := Lib.hid (by omega)
  have hm : ps.length ≤ 1048576 := by omega
  obtain ⟨n, hn⟩ : ∃ n, n = ps.length := ⟨_, rfl⟩
  have HN := Lib.hid hn
  rw [← hn] at hm ⊢
  have HB := Lib.hid (((Below.refl _ w).alloc (Nat.le_refl _) (.cells #[.int .i64 op, .string wd, .string tx, .string af, .slice B n c] 30)).alloc (by simp) (.cells #[.int .i64 0, .string ⟨#[]⟩, .string ⟨#[]⟩, .string ⟨#[]⟩, .slice none 0 0] 30))
  have HX := Lib.hid ((Bw.new w #[.int .i64 op, .string wd, .string tx, .string af, .slice B n c] 30).below ((Below.refl _ _).alloc (Nat.le_refl _) (.cells #[.int .i64 0, .string ⟨#[]⟩, .string ⟨#[]⟩, .string ⟨#[]⟩, .slice none 0 0] 30)))
  have HY := Lib.hid (Bw.new (w.alloc (.cells #[.int .i64 op, .string wd, .string tx, .string af, .slice B n c] 30)) #[.int .i64 0, .string ⟨#[]⟩, .string ⟨#[]⟩, .string ⟨#[]⟩, .slice none 0 0] 30)
  have hs1 : (w.alloc (.cells #[.int .i64 op, .string wd, .string tx, .string af, .slice B n c] 30)).heap.size = w.heap.size + 1 := by simp
  rw [hs1] at HY
  have hs2 : ((w.alloc (.cells #[.int .i64 op, .string wd, .string tx, .string af, .slice B n c] 30)).alloc (.cells #[.int .i64 0, .string ⟨#[]⟩, .string ⟨#[]⟩, .string ⟨#[]⟩, .slice none 0 0] 30)).heap.size = w.heap.size + 2 := by simp
  have HS2 := Lib.hid (Nat.le_of_eq hs2.symm)
  clear hr hz hok hcn hzs hn ih hs1 hs2 hff
  go_enter Tryd.func44, Tryd.ntmps44
  go_wp2_with fail
  generalize (w.alloc _).alloc _ = w0 at HB HX HY HS2 ⊢
  obtain ⟨W, hW⟩ : ∃ W, W = w.heap.size := ⟨_, rfl⟩
  rw [← hW] at HX HY HS2 HClo
  have HW := Lib.hid hW
  have hx4 := HX.out.1.2 4 _ rfl
  go_loopw [5, 11] (fun v i wr => ∃ j : Nat, j ≤ n ∧ i = .int .i64 j ∧ Hid (∃ E, GrL d wr (W + 2) v j (chS ff (ps.take j)) E) ∧ Hid (Bw wr W [.int .i64 op, .string wd, .string tx, .string af, .slice B n c]) ∧ Hid (Bw wr (W + 1) [.int .i64 0, .string ⟨#[]⟩, .string ⟨#[]⟩, .string ⟨#[]⟩, .slice none 0 0]) ∧ Hid (Below w.heap.size w wr) ∧ Hid (W + 2 ≤ wr.heap.size)) (fun _ i _ => n - (intOf i).toNat)
  case atStart => exact ⟨0, Nat.zero_le _, rfl, Lib.hid ⟨[], by simpa [chS] using GrL.nil d w0 (W + 2)⟩, HX, HY, HB, HS2⟩
  case round =>
    clear hx4
    obtain ⟨j, hj, rfl, HG, HX1, HY1, HB1, HS1⟩ := hrel
    obtain ⟨E, hG⟩ := HG.out
    have hform := hG.form
    obtain ⟨vA, vc, rfl⟩ := hform
    by_cases hlt : j < n
    · have hjx : j < ps.length := by rw [← HN.out]; exact hlt
      have hx? := List.getElem?_eq_getElem hjx
      obtain ⟨d', g, o, C, cc, hd, rfl, hg, e0, e1, e2, e3, e4, hr⟩ := (HR.out.below HB1.out).get hx?
      obtain ⟨k', hk'⟩ := HOk.out.2
      have hoky := List.all_eq_true.1 hk' _ (List.getElem_mem hjx)
      have hzx := szS_mem hx?
      have hzm := HZs.out
      have HTk := Lib.hid (chS_take ff hx?)
      clear hx? hk'
      generalize ps[j] = y at *
      have HYc := Lib.hid (fun ob => HI.out d' hd b1 b2 old fld y C cc k' (wr.alloc ob) (hr.below ((Below.refl _ _).alloc (Nat.le_refl _) ob)) (by omega) hoky (HCn.out _ (HB1.out.alloc HB1.out.size ob)))
      rw [← hd] at HYc
      obtain ⟨z, hz⟩ : ∃ z, z = chT ff y := ⟨_, rfl⟩
      rw [← HFf.out, ← hz] at HYc
      rw [← hz] at HTk
      clear hr hzx hzm hd hoky hz
      obtain ⟨yo, yw, yt, ya, yp⟩ := y
      simp only [op_mk, wd_mk, tx_mk, af_mk, ps_mk] at HYc e0 e1 e2 e3 e4
      generalize yp.length = yn at *
      have HGj := Lib.hid hG
      clear hG HG
      go_wp2_with fail
      refine (HYc.out _).mono ?_
      rintro e w2 ⟨A2, c2, F2, rfl, o2, n2, f2, b2⟩
      have hb2 := (((Below.refl _ wr).alloc (Nat.le_refl _) _)).trans (b2.mono (by simp))
      have hG2 := HGj.out.below hb2
      have HX2 := Lib.hid (HX1.out.below hb2)
      have HY2 := Lib.hid (HY1.out.below hb2)
      have HB2 := Lib.hid (HB1.out.trans (hb2.mono HB1.out.size))
      have hS1 := HS1.out
      have hS2 := Nat.le_trans hS1 hb2.size
      have hf2 : ∀ b ∈ F2, wr.heap.size ≤ b := fun b hb => by have := f2 b hb; simp at this; omega
      have hown := hG2.1
      have HSn := Lib.hid (fun (x : Tr) (hx : x = z) v' (w9 : World) ob hown' hgrow hat => HGj.out.snoc (x := x) (A := A2) (c := c2) (F := F2) (o := ob) (v' := v') (w9 := w9) hb2 hS1 (by rw [hx]; exact o2) n2 hf2 hown' hgrow hat)
      have hbig := Lib.hid (fun b (hv : (Value.slice vA j vc).ownBlock = some b) => HGj.out.big hv)
      obtain ⟨zo, zw, zt, za, zp⟩ := z
      simp only [op_mk, wd_mk, tx_mk, af_mk, ps_mk] at *
      obtain ⟨zn, hzn⟩ : ∃ n, n = zp.length := ⟨_, rfl⟩
      have HZn := Lib.hid hzn
      rw [← hzn]
      clear b2 o2 n2 f2 hf2 hG2 HGj HYc HX1 HY1 HB1 hzn
      go_wp2_with (first | (at_builtin; refine wpList_append_own_at _ rfl _ _ 28 rfl (W + 2) 30 i0 (.agg #[.int .i64 0, .string ByteArray.empty, .string ByteArray.empty, .string ByteArray.empty, .slice none 0 0]) 5 80 Tryd.underlying28 hi hz0 hz1 hz2 rfl (by decide) _ _ _ rfl (hown.alloc _) ⟨w2.heap.size, 0, none⟩ 1 1 [.int .i64 zo, .string zw, .string zt, .string za, .slice A2 zn c2] rfl rfl (five_new _ _ _ _ _ _ _) (by simp [Value.oneCell']) (by unfold maxLen; omega) (by omega) (by simp; omega) ?_; intro v' w9 hown' hgrow _ hat) | go_in)
      go_roundw
      case rel =>
        have hrow : some W ≠ (Value.slice vA j vc).ownBlock := fun e => by have := (hbig.out W e.symm).1; omega
        have hrow1 : some (W + 1) ≠ (Value.slice vA j vc).ownBlock := fun e => by have := (hbig.out (W + 1) e.symm).1; omega
        have HGn : Hid (∃ E, GrL d w9 (W + 2) v' (j + 1) (chS ff (ps.take (j + 1))) E) := Lib.hid ⟨_, by
          rw [HTk.out]
          exact HSn.out _ rfl _ _ _ (by rw [HZn.out] at hown'; exact hown') hgrow hat⟩
        have hX9 := (HX2.out.below ((Below.refl _ _).alloc (Nat.le_refl _) (.cells #[.int .i64 zo, .string zw, .string zt, .string za, .slice A2 zn c2] 30))).grown hgrow hrow
        have hY9 := (HY2.out.below ((Below.refl _ _).alloc (Nat.le_refl _) (.cells #[.int .i64 zo, .string zw, .string zt, .string za, .slice A2 zn c2] 30))).grown hgrow hrow1
        have hB9 := (HB2.out.alloc HB2.out.size (.cells #[.int .i64 zo, .string zw, .string zt, .string za, .slice A2 zn c2] 30)).grown hgrow (by have := HB2.out.size; simp; omega) (fun b hv => by have := (hbig.out b hv).1; have := HW.out; omega)
        have hS9 : W + 2 ≤ w9.heap.size := by
          have h1 := hgrow.size
          simp at h1
          omega
        exact ⟨j + 1, by omega, by go_num, HGn, Lib.hid hX9, Lib.hid hY9, Lib.hid hB9, Lib.hid hS9⟩
      case measure => simp [intOf]; omega
    · obtain rfl : j = n := by omega
      have hWs := HW.out
      subst hWs
      have htk : ps.take j = ps := List.take_of_length_le (by rw [← HN.out]; omega)
      rw [htk] at hG
      have hlen : (chS ff ps).length = ps.length := chS_len ff ps
      have hG5 := hG.off (g := w.heap.size) (o := 4) (by omega) (.slice vA j vc)
      obtain ⟨F5, ho5, hn5, hB5⟩ := hG5.own
      have hz4 := HX1.out.1.2 4 _ rfl
      have hf4 := HX1.out.2 4
      have HC5 := Lib.hid (HClo.out (chS ff ps) vA vc F5 _ (by rw [hlen]) ho5 hn5 hB5 (HCn.out _ (HB1.out.setCell (p := ⟨w.heap.size, 4, none⟩) (Nat.le_refl _) _)))
      obtain ⟨z, hz⟩ : ∃ z, z = ff (.mk op wd tx af (chS ff ps)) := ⟨_, rfl⟩
      rw [hlen, ← HN.out, ← hz] at HC5
      have HZ : Hid (chT ff (.mk op wd tx af ps) = z) := Lib.hid (by rw [HEq.out, hz])
      have hbw := HX1.out.1.1
      have h0 := HX1.out.1.2 0 _ rfl
      have h1 := HX1.out.1.2 1 _ rfl
      have h2 := HX1.out.1.2 2 _ rfl
      have h3 := HX1.out.1.2 3 _ rfl
      have HY5 := Lib.hid (HY1.out.off (g := w.heap.size) (o := 4) (.slice vA j vc) (by omega))
      have HB5 := Lib.hid (HB1.out.setCell (p := ⟨w.heap.size, 4, none⟩) (Nat.le_refl _) (.slice vA j vc))
      clear hG hG5 ho5 hn5 hB5 HG HX1 HY1 HB1 htk hlen hz HEq HClo
      go_wp2_with fail
      refine HC5.out.mono ?_
      rintro e w6 ⟨A6, c6, F6, rfl, o6, n6, f6, b6⟩
      have hY6 := HY5.out.below b6
      have y0 := hY6.1.2 0 _ rfl
      have y1 := hY6.1.2 1 _ rfl
      have y2 := hY6.1.2 2 _ rfl
      have y3 := hY6.1.2 3 _ rfl
      have y4 := hY6.1.2 4 _ rfl
      have q0 := hY6.2 0
      have q1 := hY6.2 1
      have q2 := hY6.2 2
      have q3 := hY6.2 3
      have q4 := hY6.2 4
      have HO6 := Lib.hid o6
      have HN6 := Lib.hid n6
      have HF6 := Lib.hid f6
      have HB6 := Lib.hid (HB5.out.trans (b6.mono HB5.out.size))
      have hsz6 : w.heap.size + 1 < w6.heap.size := hY6.1.1
      obtain ⟨zo, zw, zt, za, zp⟩ := z
      simp only [op_mk, wd_mk, tx_mk, af_mk, ps_mk] at HO6 ⊢
      obtain ⟨zn, hzn⟩ : ∃ n, n = zp.length := ⟨_, rfl⟩
      have HZn := Lib.hid hzn
      rw [← hzn]
      clear o6 n6 f6 b6 hY6 HY5 HB5 HC5 hzn hz4 hf4 hbw h0 h1 h2 h3
      go_wp2_with fail
      refine bodyPost_ret (v := ndV zo zw zt za A6 zn c6) (by simp [results, Tryd.results44, go_sem, *]) rfl ?_
      rw [HZ.out]
      refine ⟨A6, c6, F6, by rw [HZn.out]; rfl, ?_, HN6.out, fun b hb => by have := HF6.out b hb; omega, ?_⟩
      · have O2 := HO6.out
        have hF2 := HF6.out
        iterate 5 (refine own_off ?_ hF2 (by simp) _)
        exact O2
      · have B2 := HB6.out
        iterate 5 (refine Below.setCell ?_ (by simp) _)
        exact B2
theorem chRp_all (d : Nat) : ChRp d := by
  induction d with
  | zero => exact chRp_step 0 (fun d' h => by omega)
  | succ d ih => exact chRp_step (d + 1) (fun d' h => by have e : d' = d := (by omega); subst e; exact ih)

/-- what changeNode answers, at the change of ChooseKind$1 -/
def ChCk (d : Nat) : Prop := ∀ (b1 : Nat) (word : ByteArray) (x : Tr) (B : Option Addr) (c k : Nat) (w : World), RdL d w B x.ps → szT x ≤ 1048576 → okT k x = true → Bx w b1 [.string word] →
  Calls Tryd.prog 44 #[ndV x.op x.wd x.tx x.af B x.ps.length c, .func (.func 34) #[] #[.pointer (some ⟨b1, 0, none⟩)]] w (NdPost (d + 1) w w.heap.size (chT (ckF word) x))
set_option maxRecDepth 100000 in
set_option maxHeartbeats 4000000 in
theorem chCk_step (d : Nat) (ih : ∀ d', d = d' + 1 → ChCk d') : ChCk d := by
  intro b1 word x B c k w hr hz hok hcn
  obtain ⟨i0, hi, hz0, hz1, hz2⟩ := info_parts infoNd
  have hzs := szT_eq x
  obtain ⟨ff, hff⟩ : ∃ ff, ff = ckF word := ⟨_, rfl⟩
  have HFf := Lib.hid hff
  have HI := Lib.hid ih
  have HEq : Hid (chT ff x = ff (.mk x.op x.wd x.tx x.af (chS ff x.ps))) := Lib.hid (chT_eq ff x)
  have HOk : Hid (shB x.op x.wd x.tx x.af x.ps.length = true ∧ ∃ k', x.ps.all (okT k') = true) := Lib.hid (by
    cases k with
    | zero => cases hok
    | succ k' =>
      have h : (shB x.op x.wd x.tx x.af x.ps.length && x.ps.all (okT k')) = true := hok
      rw [Bool.and_eq_true] at h
      exact ⟨h.1, k', h.2⟩)
  have HClo := Lib.hid (fun (ps : List Tr) (A : Option Addr) (c F w1) (h : ps.length = x.ps.length) (ho : OwL (d + 1) w1 A c ps F) (hF : F.Nodup) (hB : ∀ b ∈ F, w.heap.size + 2 ≤ b) (hc : Bx w1 b1 [.string word]) => clo_ck b1 word (.mk x.op x.wd x.tx x.af ps) A c (w.heap.size + 2) d F w1 ho hF hB hc (fun h5 => by have h1 := HOk.out.1; have h2 : x.op = 5 := h5; rw [h2] at h1; simp only [shB] at h1; simp at h1; show ps.length = 2; rw [h]; omega))
  rw [← hff] at HClo ⊢
  have HCn := Lib.hid (fun w1 (h : Below w.heap.size w w1) => (show Bx w1 b1 [.string word] from hcn.below h))
  obtain ⟨op, wd, tx, af, ps⟩ := x
  simp only [op_mk, wd_mk, tx_mk, af_mk, ps_mk] at *
  have HR := Lib.hid hr
  have HZs : Hid (szS ps ≤ 1048576) := Lib.hid (by omega)
  have hm : ps.length ≤ 1048576 := by omega
  obtain ⟨n, hn⟩ : ∃ n, n = ps.length := ⟨_, rfl⟩
  have HN := Lib.hid hn
  rw [← hn] at hm ⊢
  have HB := Lib.hid (((Below.refl _ w).alloc (Nat.le_refl _) (.cells #[.int .i64 op, .string wd, .string tx, .string af, .slice B n c] 30)).alloc (by simp) (.cells #[.int .i64 0, .string ⟨#[]⟩, .string ⟨#[]⟩, .string ⟨#[]⟩, .slice none 0 0] 30))
  have HX := Lib.hid ((Bw.new w #[.int .i64 op, .string wd, .string tx, .string af, .slice B n c] 30).below ((Below.refl _ _).alloc (Nat.le_refl _) (.cells #[.int .i64 0, .string ⟨#[]⟩, .string ⟨#[]⟩, .string ⟨#[]⟩, .slice none 0 0] 30)))
  have HY := Lib.hid (Bw.new (w.alloc (.cells #[.int .i64 op, .string wd, .string tx, .string af, .slice B n c] 30)) #[.int .i64 0, .string ⟨#[]⟩, .string ⟨#[]⟩, .string ⟨#[]⟩, .slice none 0 0] 30)
  have hs1 : (w.alloc (.cells #[.int .i64 op, .string wd, .string tx, .string af, .slice B n c] 30)).heap.size = w.heap.size + 1 := by simp
  rw [hs1] at HY
  have hs2 : ((w.alloc (.cells #[.int .i64 op, .string wd, .string tx, .string af, .slice B n c] 30)).alloc (.cells #[.int .i64 0, .string ⟨#[]⟩, .string ⟨#[]⟩, .string ⟨#[]⟩, .slice none 0 0] 30)).heap.size = w.heap.size + 2 := by simp
  have HS2 := Lib.hid (Nat.le_of_eq hs2.symm)
  clear hr hz hok hcn hzs hn ih hs1 hs2 hff
  go_enter Tryd.func44, Tryd.ntmps44
  go_wp2_with fail
  generalize (w.alloc _).alloc _ = w0 at HB HX HY HS2 ⊢
  obtain ⟨W, hW⟩ : ∃ W, W = w.heap.size := ⟨_, rfl⟩
  rw [← hW] at HX HY HS2 HClo
  have HW := Lib.hid hW
  have hx4 := HX.out.1.2 4 _ rfl
  go_loopw [5, 11] (fun v i wr => ∃ j : Nat, j ≤ n ∧ i = .int .i64 j ∧ Hid (∃ E, GrL d wr (W + 2) v j (chS ff (ps.take j)) E) ∧ Hid (Bw wr W [.int .i64 op, .string wd, .string tx, .string af, .slice B n c]) ∧ Hid (Bw wr (W + 1) [.int .i64 0, .string ⟨#[]⟩, .string ⟨#[]⟩, .string ⟨#[]⟩, .slice none 0 0]) ∧ Hid (Below w.heap.size w wr) ∧ Hid (W + 2 ≤ wr.heap.size)) (fun _ i _ => n - (intOf i).toNat)
  case atStart => exact ⟨0, Nat.zero_le _, rfl, Lib.hid ⟨[], by simpa [chS] using GrL.nil d w0 (W + 2)⟩, HX, HY, HB, HS2⟩
  case round =>
    clear hx4
    obtain ⟨j, hj, rfl, HG, HX1, HY1, HB1, HS1⟩ := hrel
    obtain ⟨E, hG⟩ := HG.out
    have hform := hG.form
    obtain ⟨vA, vc, rfl⟩ := hform
    by_cases hlt : j < n
    · have hjx : j < ps.length := by rw [← HN.out]; exact hlt
      have hx? := List.getElem?_eq_getElem hjx
      obtain ⟨d', g, o, C, cc, hd, rfl, hg, e0, e1, e2, e3, e4, hr⟩ := (HR.out.below HB1.out).get hx?
      obtain ⟨k', hk'⟩ := HOk.out.2
      have hoky := List.all_eq_true.1 hk' _ (List.getElem_mem hjx)
      have hzx := szS_mem hx?
      have hzm := HZs.out
      have HTk := Lib.hid (chS_take ff hx?)
      clear hx? hk'
      generalize ps[j] = y at *
      have HYc := Lib.hid (fun ob => HI.out d' hd b1 word y C cc k' (wr.alloc ob) (hr.below ((Below.refl _ _).alloc (Nat.le_refl _) ob)) (by omega) hoky (HCn.out _ (HB1.out.alloc HB1.out.size ob)))
      rw [← hd] at HYc
      obtain ⟨z, hz⟩ : ∃ z, z = chT ff y := ⟨_, rfl⟩
      rw [← HFf.out, ← hz] at HYc
      rw [← hz] at HTk
      clear hr hzx hzm hd hoky hz
      obtain ⟨yo, yw, yt, ya, yp⟩ := y
      simp only [op_mk, wd_mk, tx_mk, af_mk, ps_mk] at HYc e0 e1 e2 e3 e4
      generalize yp.length = yn at *
      have HGj := Lib.hid hG
      clear hG HG
      go_wp2_with fail
      refine (HYc.out _).mono ?_
      rintro e w2 ⟨A2, c2, F2, rfl, o2, n2, f2, b2⟩
      have hb2 := (((Below.refl _ wr).alloc (Nat.le_refl _) _)).trans (b2.mono (by simp))
      have hG2 := HGj.out.below hb2
      have HX2 := Lib.hid (HX1.out.below hb2)
      have HY2 := Lib.hid (HY1.out.below hb2)
      have HB2 := Lib.hid (HB1.out.trans (hb2.mono HB1.out.size))
      have hS1 := HS1.out
      have hS2 := Nat.le_trans hS1 hb2.size
      have hf2 : ∀ b ∈ F2, wr.heap.size ≤ b := fun b hb => by have := f2 b hb; simp at this; omega
      have hown := hG2.1
      have HSn := Lib.hid (fun (x : Tr) (hx : x = z) v' (w9 : World) ob hown' hgrow hat => HGj.out.snoc (x := x) (A := A2) (c := c2) (F := F2) (o := ob) (v' := v') (w9 := w9) hb2 hS1 (by rw [hx]; exact o2) n2 hf2 hown' hgrow hat)
      have hbig := Lib.hid (fun b (hv : (Value.slice vA j vc).ownBlock = some b) => HGj.out.big hv)
      obtain ⟨zo, zw, zt, za, zp⟩ := z
      simp only [op_mk, wd_mk, tx_mk, af_mk, ps_mk] at *
      obtain ⟨zn, hzn⟩ : ∃ n, n = zp.length := ⟨_, rfl⟩
      have HZn := Lib.hid hzn
      rw [← hzn]
      clear b2 o2 n2 f2 hf2 hG2 HGj HYc HX1 HY1 HB1 hzn
      go_wp2_with (first | (at_builtin; refine wpList_append_own_at _ rfl _ _ 28 rfl (W + 2) 30 i0 (.agg #[.int .i64 0, .string ByteArray.empty, .string ByteArray.empty, .string ByteArray.empty, .slice none 0 0]) 5 80 Tryd.underlying28 hi hz0 hz1 hz2 rfl (by decide) _ _ _ rfl (hown.alloc _) ⟨w2.heap.size, 0, none⟩ 1 1 [.int .i64 zo, .string zw, .string zt, .string za, .slice A2 zn c2] rfl rfl (five_new _ _ _ _ _ _ _) (by simp [Value.oneCell']) (by unfold maxLen; omega) (by omega) (by simp; omega) ?_; intro v' w9 hown' hgrow _ hat) | go_in)
      go_roundw
      case rel =>
        have hrow : some W ≠ (Value.slice vA j vc).ownBlock := fun e => by have := (hbig.out W e.symm).1; omega
        have hrow1 : some (W + 1) ≠ (Value.slice vA j vc).ownBlock := fun e => by have := (hbig.out (W + 1) e.symm).1; omega
        have HGn : Hid (∃ E, GrL d w9 (W + 2) v' (j + 1) (chS ff (ps.take (j + 1))) E) := Lib.hid ⟨_, by
          rw [HTk.out]
          exact HSn.out _ rfl _ _ _ (by rw [HZn.out] at hown'; exact hown') hgrow hat⟩
        have hX9 := (HX2.out.below ((Below.refl _ _).alloc (Nat.le_refl _) (.cells #[.int .i64 zo, .string zw, .string zt, .string za, .slice A2 zn c2] 30))).grown hgrow hrow
        have hY9 := (HY2.out.below ((Below.refl _ _).alloc (Nat.le_refl _) (.cells #[.int .i64 zo, .string zw, .string zt, .string za, .slice A2 zn c2] 30))).grown hgrow hrow1
        have hB9 := (HB2.out.alloc HB2.out.size (.cells #[.int .i64 zo, .string zw, .string zt, .string za, .slice A2 zn c2] 30)).grown hgrow (by have := HB2.out.size; simp; omega) (fun b hv => by have := (hbig.out b hv).1; have := HW.out; omega)
        have hS9 : W + 2 ≤ w9.heap.size := by
          have h1 := hgrow.size
          simp at h1
          omega
        exact ⟨j + 1, by omega, by go_num, HGn, Lib.hid hX9, Lib.hid hY9, Lib.hid hB9, Lib.hid hS9⟩
      case measure => simp [intOf]; omega
    · obtain rfl : j = n := by omega
      have hWs := HW.out
      subst hWs
      have htk : ps.take j = ps := List.take_of_length_le (by rw [← HN.out]; omega)
      rw [htk] at hG
      have hlen : (chS ff ps).length = ps.length := chS_len ff ps
      have hG5 := hG.off (g := w.heap.size) (o := 4) (by omega) (.slice vA j vc)
      obtain ⟨F5, ho5, hn5, hB5⟩ := hG5.own
      have hz4 := HX1.out.1.2 4 _ rfl
      have hf4 := HX1.out.2 4
      have HC5 := Lib.hid (HClo.out (chS ff ps) vA vc F5 _ (by rw [hlen]) ho5 hn5 hB5 (HCn.out _ (HB1.out.setCell (p := ⟨w.heap.size, 4, none⟩) (Nat.le_refl _) _)))
      obtain ⟨z, hz⟩ : ∃ z, z = ff (.mk op wd tx af (chS ff ps)) := ⟨_, rfl⟩
      rw [hlen, ← HN.out, ← hz] at HC5
      have HZ : Hid (chT ff (.mk op wd tx af ps) = z) := Lib.hid (by rw [HEq.out, hz])
      have hbw := HX1.out.1.1
      have h0 := HX1.out.1.2 0 _ rfl
      have h1 := HX1.out.1.2 1 _ rfl
      have h2 := HX1.out.1.2 2 _ rfl
      have h3 := HX1.out.1.2 3 _ rfl
      have HY5 := Lib.hid (HY1.out.off (g := w.heap.size) (o := 4) (.slice vA j vc) (by omega))
      have HB5 := Lib.hid (HB1.out.setCell (p := ⟨w.heap.size, 4, none⟩) (Nat.le_refl _) (.slice vA j vc))
      clear hG hG5 ho5 hn5 hB5 HG HX1 HY1 HB1 htk hlen hz HEq HClo
      go_wp2_with fail
      refine HC5.out.mono ?_
      rintro e w6 ⟨A6, c6, F6, rfl, o6, n6, f6, b6⟩
      have hY6 := HY5.out.below b6
      have y0 := hY6.1.2 0 _ rfl
      have y1 := hY6.1.2 1 _ rfl
      have y2 := hY6.1.2 2 _ rfl
      have y3 := hY6.1.2 3 _ rfl
      have y4 := hY6.1.2 4 _ rfl
      have q0 := hY6.2 0
      have q1 := hY6.2 1
      have q2 := hY6.2 2
      have q3 := hY6.2 3
      have q4 := hY6.2 4
      have HO6 := Lib.hid o6
      have HN6 := Lib.hid n6
      have HF6 := Lib.hid f6
      have HB6 := Lib.hid (HB5.out.trans (b6.mono HB5.out.size))
      have hsz6 : w.heap.size + 1 < w6.heap.size := hY6.1.1
      obtain ⟨zo, zw, zt, za, zp⟩ := z
      simp only [op_mk, wd_mk, tx_mk, af_mk, ps_mk] at HO6 ⊢
      obtain ⟨zn, hzn⟩ : ∃ n, n = zp.length := ⟨_, rfl⟩
      have HZn := Lib.hid hzn
      rw [← hzn]
      clear o6 n6 f6 b6 hY6 HY5 HB5 HC5 hzn hz4 hf4 hbw h0 h1 h2 h3
      go_wp2_with fail
      refine bodyPost_ret (v := ndV zo zw zt za A6 zn c6) (by simp [results, Tryd.results44, go_sem, *]) rfl ?_
      rw [HZ.out]
      refine ⟨A6, c6, F6, by rw [HZn.out]; rfl, ?_, HN6.out, fun b hb => by have := HF6.out b hb; omega, ?_⟩
      · have O2 := HO6.out
        have hF2 := HF6.out
        iterate 5 (refine own_off ?_ hF2 (by simp) _)
        exact O2
      · have B2 := HB6.out
        iterate 5 (refine Below.setCell ?_ (by simp) _)
        exact B2
theorem chCk_all (d : Nat) : ChCk d := by
  induction d with
  | zero => exact chCk_step 0 (fun d' h => by omega)
  | succ d ih => exact chCk_step (d + 1) (fun d' h => by have e : d' = d := (by omega); subst e; exact ih)
end Go.Proofs.YtldfdfdleaemaaaDoor.Nd
