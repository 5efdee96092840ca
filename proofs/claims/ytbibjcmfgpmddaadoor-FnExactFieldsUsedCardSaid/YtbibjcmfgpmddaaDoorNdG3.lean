/-
  Contracts of add, sizeOf, IsValidStyle and CountNodes of the program.
-/
import Derived.Test.YtbibjcmfgpmddaaDoorNdG2
import Derived.Test.YtbibjcmfgpmddaaDoorNdFi
namespace Go.Proofs.YtbibjcmfgpmddaaDoor.Nd
open Go.RowKit NdPl Ns LaidS
set_option linter.unusedSimpArgs false
set_option linter.unusedVariables false

/-- the tables lie as laid -/
def Tabs (w : World) : Prop := FormTab w ∧ StrTab 1 kdw w
theorem Tabs.below {w w' : World} (h : Tabs w) (hb : Below w.heap.size w w') : Tabs w' := ⟨Bx.below h.1 hb, h.2.below hb⟩
/-- block bs is a box of a size that may be written -/
def Sz (w : World) (bs cn q : Nat) : Prop := bs < w.heap.size ∧ w.cell? ⟨bs, 0, none⟩ = some (.int .i64 cn) ∧ w.cell? ⟨bs, 1, none⟩ = some (.int .i64 q) ∧ w.frozen? ⟨bs, 0, none⟩ = false ∧ w.frozen? ⟨bs, 1, none⟩ = false
theorem Sz.below {w w' : World} {bs cn q : Nat} (h : Sz w bs cn q) (hb : Below w.heap.size w w') : Sz w' bs cn q := by
  obtain ⟨h0, h1, h2, h3, h4⟩ := h
  exact ⟨Nat.lt_of_lt_of_le h0 hb.size, (hb.cell (p := ⟨bs, 0, none⟩) h0).trans h1, (hb.cell (p := ⟨bs, 1, none⟩) h0).trans h2, (hb.frozen (p := ⟨bs, 0, none⟩) h0).trans h3, (hb.frozen (p := ⟨bs, 1, none⟩) h0).trans h4⟩
theorem gb_trans {w w1 w2 : World} {row : Option Nat} (h : w.grownBy w1 row) (hb : w1.grownBy w2 row) : w.grownBy w2 row :=
  ⟨hb.os.trans h.os, hb.tape.trans h.tape, hb.output.trans h.output, Nat.le_trans h.size hb.size, fun k hk hr => (hb.block k (Nat.lt_of_lt_of_le hk h.size) hr).trans (h.block k hk hr)⟩
theorem gb_more {w w1 w2 : World} {row : Option Nat} (h : w.grownBy w1 row) (hb : Below w1.heap.size w1 w2) : w.grownBy w2 row :=
  ⟨hb.os.trans h.os, hb.tape.trans h.tape, hb.output.trans h.output, Nat.le_trans h.size hb.size, fun k hk hr => (hb.block k (Nat.lt_of_lt_of_le hk h.size)).trans (h.block k hk hr)⟩
theorem gb_below {W w w' : World} {bs : Nat} (h : Below W.heap.size W w) (hg : w.grownBy w' (some bs)) (hbs : W.heap.size ≤ bs) : Below W.heap.size W w' :=
  ⟨hg.os.trans h.os, hg.tape.trans h.tape, hg.output.trans h.output, Nat.le_trans h.size hg.size, fun k hk => (hg.block k (Nat.lt_of_lt_of_le hk h.size) (fun e => by cases e; omega)).trans (h.block k hk)⟩
theorem gb_box2 (w : World) (bs : Nat) (u v : Value) (o : Obj) : w.grownBy (((w.setCell ⟨bs, 0, none⟩ u).setCell ⟨bs, 1, none⟩ v).alloc o) (some bs) := by
  have h1 : w.grownBy ((w.setCell ⟨bs, 0, none⟩ u).setCell ⟨bs, 1, none⟩ v) (some bs) :=
    ⟨rfl, by simp, rfl, by simp, fun k hk hr => by
      have : k ≠ bs := fun e => hr (by rw [e])
      rw [Below.heap_setCell _ _ _ _ this, Below.heap_setCell _ _ _ _ this]⟩
  exact gb_more h1 ((Below.refl _ _).alloc (Nat.le_refl _) o)
theorem sz_box {w : World} {bs cn0 q0 : Nat} (h0 : bs < w.heap.size) (h1 : w.cell? ⟨bs, 0, none⟩ = some (.int .i64 cn0)) (h2 : w.cell? ⟨bs, 1, none⟩ = some (.int .i64 q0)) (h3 : w.frozen? ⟨bs, 0, none⟩ = false) (h4 : w.frozen? ⟨bs, 1, none⟩ = false) (o : Obj) (cn q : Nat) : Sz (((w.setCell ⟨bs, 0, none⟩ (.int .i64 cn)).setCell ⟨bs, 1, none⟩ (.int .i64 q)).alloc o) bs cn q := by
  refine Sz.below ?_ ((Below.refl _ _).alloc (Nat.le_refl _) o)
  have a1 := World.cell?_setCell_same' w ⟨bs, 0, none⟩ (.int .i64 cn) (by rw [h1]; rfl)
  have a2 : (w.setCell ⟨bs, 0, none⟩ (.int .i64 cn)).cell? ⟨bs, 1, none⟩ = some (.int .i64 q0) := (World.cell?_setCell_other _ _ _ _ (by simp)).trans h2
  have a3 := World.cell?_setCell_same' (w.setCell ⟨bs, 0, none⟩ (.int .i64 cn)) ⟨bs, 1, none⟩ (.int .i64 q) (by rw [a2]; rfl)
  exact ⟨by simpa using h0, (World.cell?_setCell_other _ _ _ _ (by simp)).trans a1, a3, (World.frozen?_setCell _ _ _ _).trans ((World.frozen?_setCell _ _ _ _).trans h3), (World.frozen?_setCell _ _ _ _).trans ((World.frozen?_setCell _ _ _ _).trans h4)⟩
theorem bx_box (w : World) (bs : Nat) (u v : Value) (cs : Array Value) (t : TypeId) : Bx (((w.setCell ⟨bs, 0, none⟩ u).setCell ⟨bs, 1, none⟩ v).alloc (.cells cs t)) w.heap.size cs.toList := by
  have h := Bx.new ((w.setCell ⟨bs, 0, none⟩ u).setCell ⟨bs, 1, none⟩ v) cs t
  simpa using h
/-- what add leaves -/
def AddPost (w : World) (bs cn q level : Nat) (r : Bool) (ct dp : Nat) (e : Ending) (w' : World) : Prop := ∃ cn' q' : Nat, e = .returned (.bool r) ∧ w.grownBy w' (some bs) ∧ Sz w' bs cn' q' ∧ (r = true → cn' = cn + ct ∧ q' = max q (level - 1 + dp) ∧ q' ≤ 5)
/-- what add answers of a node at a level: k levels are left -/
def AddT (k : Nat) : Prop := ∀ (W0 : World) (bs : Nat), W0.heap.size ≤ bs → Tabs W0 → ∀ (x : Tr) (B : Option Addr) (c d : Nat) (w : World) (cn q level : Nat), RdL d W0 B x.ps → szT x ≤ 1048576 → Below W0.heap.size W0 w → Sz w bs cn q → cn ≤ 30 → q ≤ 5 → level + k = 6 →
  Calls Tryd.prog 36 #[.pointer (some ⟨bs, 0, none⟩), ndV x.op x.wd x.tx x.af B x.ps.length c, .int .i64 level] w (AddPost w bs cn q level (okT k x && decide (cn + cntT x ≤ 30)) (cntT x) (dpT x))
set_option maxHeartbeats 2000000 in
theorem add_0 : AddT 0 := by
  intro W0 bs hbs hT x B c d w cn q level hr hz hb hs hcn hq hl
  obtain ⟨op, wd, tx, af, ps⟩ := x
  have HF : Hid ((okT 0 (.mk op wd tx af ps) && decide (cn + cntT (.mk op wd tx af ps) ≤ 30)) = false) := Lib.hid rfl
  rw [HF.out]
  generalize cntT (.mk op wd tx af ps) = ct
  generalize dpT (.mk op wd tx af ps) = dp
  simp only [Tr.op, Tr.wd, Tr.tx, Tr.af, Tr.ps] at *
  obtain ⟨s0, s1, s2, s3, s4⟩ := hs
  obtain rfl : level = 6 := by omega
  generalize ps.length = n at *
  clear hr hz hT hl
  go_enter Tryd.func36, Tryd.ntmps36
  go_wp2_with fail
  all_goals
    go_ret
    refine ⟨cn + 1, max q 6, rfl, gb_box2 w bs _ _ _, ?_, fun h => by cases h⟩
    have h := sz_box s0 s1 s2 s3 s4 (.cells #[.int .i64 op, .string wd, .string tx, .string af, .slice B n c] 33) (cn + 1) (max q 6)
    have e1 : ((cn + 1 : Nat) : Int) = (cn : Int) + 1 := by omega
    have e2 : ((max q 6 : Nat) : Int) = max (q : Int) 6 := by omega
    rw [e1, e2] at h
    exact h

set_option maxRecDepth 100000 in
set_option maxHeartbeats 4000000 in
theorem add_step (k0 : Nat) (hk0 : k0 ≤ 4) (ih : AddT k0) : AddT (k0 + 1) := by
  intro W0 bs hbs hT x B c d w cn q level hr hz hb hs hcn hq hl
  have hzs := szT_eq x
  obtain ⟨l1, hlv⟩ : ∃ l1 : Nat, (level : Int) + 1 = (l1 : Int) := ⟨level + 1, by omega⟩
  have Hl1 : Hid (l1 = level + 1) := Lib.hid (by omega)
  have HI := Lib.hid (fun y C cc d' w' cn' q' h1 h2 h3 h4 h5 h6 => ih W0 bs hbs hT y C cc d' w' cn' q' l1 h1 h2 h3 h4 h5 h6 (by omega))
  have HQc := Lib.hid (cntT_eq x)
  have HQd := Lib.hid (dpT_eq x)
  have HO : Hid (okT (k0 + 1) x = (shB x.op x.wd x.tx x.af x.ps.length && x.ps.all (okT k0))) := Lib.hid rfl
  obtain ⟨r, HRr⟩ : ∃ r, Hid (r = (okT (k0 + 1) x && decide (cn + cntT x ≤ 30))) := ⟨_, Lib.hid rfl⟩
  rw [← HRr.out]
  generalize okT (k0 + 1) x = okx at *
  generalize cntT x = ctx at *
  generalize dpT x = dpx at *
  obtain ⟨op, wd, tx, af, ps⟩ := x
  simp only [Tr.op, Tr.wd, Tr.tx, Tr.af, Tr.ps] at *
  obtain ⟨s0, s1, s2, s3, s4⟩ := hs
  have HR := Lib.hid hr
  have HZs : Hid (szS ps ≤ 1048576) := Lib.hid (by omega)
  have hm : ps.length ≤ 1048576 := by omega
  obtain ⟨n, hn⟩ : ∃ n, n = ps.length := ⟨_, rfl⟩
  rw [← hn] at hm HO ⊢
  have HN := Lib.hid hn
  clear hr hz hzs hn ih
  obtain ⟨c1, hc1⟩ : ∃ c1 : Nat, (cn : Int) + 1 = (c1 : Int) := ⟨cn + 1, by omega⟩
  obtain ⟨qq, hqq⟩ : ∃ qq : Nat, max (q : Int) (level : Int) = (qq : Int) := ⟨max q level, by omega⟩
  have HG := Lib.hid (gb_box2 w bs (.int .i64 c1) (.int .i64 qq) (.cells #[.int .i64 op, .string wd, .string tx, .string af, .slice B n c] 33))
  have HSz := Lib.hid (sz_box s0 s1 s2 s3 s4 (.cells #[.int .i64 op, .string wd, .string tx, .string af, .slice B n c] 33) c1 qq)
  have HX := Lib.hid (bx_box w bs (.int .i64 c1) (.int .i64 qq) #[.int .i64 op, .string wd, .string tx, .string af, .slice B n c] 33)
  have Hc1 : Hid (c1 = cn + 1) := Lib.hid (by omega)
  have Hqq : Hid (qq = max q level) := Lib.hid (by omega)
  have hlv5 : level ≤ 5 := by omega
  have hlv1 : Hid (1 ≤ level) := Lib.hid (by omega)
  by_cases h30 : c1 ≤ 30
  · have hq5 : qq ≤ 5 := by have := Hqq.out; omega
    have HF := Lib.hid (fun w1 (h : Below W0.heap.size W0 w1) => fits_i op wd tx af B n c w1 hm (hT.below h).1 (hT.below h).2)
    have HB := Lib.hid (gb_below hb HG.out hbs)
    clear hT hb
    generalize shB op wd tx af n = sh at *
    go_enter Tryd.func36, Tryd.ntmps36
    go_wp2_with fail
    generalize ((w.setCell _ _).setCell _ _).alloc _ = w0 at HG HSz HX HB ⊢
    clear s0 s1 s2 s3 s4 hc1 hqq
    refine (HF.out _ HB.out).mono ?_
    rintro e w1 ⟨rfl, b1⟩
    have G1 := Lib.hid (gb_more HG.out b1)
    have S1 := Lib.hid (HSz.out.below b1)
    have X1 := Lib.hid (HX.out.below b1)
    have B1 := Lib.hid (HB.out.trans (b1.mono HB.out.size))
    have c4 := X1.out.2 4 _ rfl
    clear b1 HG HSz HX HB HF
    cases sh with
    | false =>
      have HE : Hid (r = false) := Lib.hid (by rw [HRr.out, HO.out]; rfl)
      go_wp2_with fail
      go_ret
      exact ⟨c1, qq, by rw [HE.out]; rfl, G1.out, S1.out, fun h => by rw [HE.out] at h; cases h⟩
    | true =>
      go_wp2_with fail
      clear c4
      go_loopw [45] (fun i wr => ∃ j cn' q' : Nat, j ≤ n ∧ i = .int .i64 j ∧ cn' ≤ 30 ∧ q' ≤ 5 ∧ Hid (w.grownBy wr (some bs)) ∧ Hid (Below W0.heap.size W0 wr) ∧ Hid (Sz wr bs cn' q') ∧ Hid (cn' = cn + 1 + cntS (ps.take j)) ∧ Hid (q' = max q (level + dpS (ps.take j))) ∧ Hid ((ps.drop j).all (okT k0) = ps.all (okT k0))) (fun i _ => n - (intOf i).toNat)
      case atStart => exact ⟨0, c1, qq, Nat.zero_le _, rfl, h30, hq5, G1, B1, S1, Hc1, Hqq, Lib.hid rfl⟩
      case round =>
        obtain ⟨j, cn', q', hj, rfl, h30', hq5', G2, B2, S2, C2, Q2, HD⟩ := hrel
        by_cases hlt : j < n
        · have hjx : j < ps.length := by rw [← HN.out]; exact hlt
          have hx? := List.getElem?_eq_getElem hjx
          obtain ⟨d', g, o, C, cc, hd, rfl, hg, e0, e1, e2, e3, e4, hr⟩ := HR.out.get hx?
          have hkc : ∀ i, wr.cell? ⟨g, i, none⟩ = W0.cell? ⟨g, i, none⟩ := fun i => B2.out.cell (p := ⟨g, i, none⟩) hg
          replace e0 := (hkc _).trans e0
          replace e1 := (hkc _).trans e1
          replace e2 := (hkc _).trans e2
          replace e3 := (hkc _).trans e3
          replace e4 := (hkc _).trans e4
          have hgr : g < wr.heap.size := Nat.lt_of_lt_of_le hg B2.out.size
          have HA := Lib.hid (all_dropT (okT k0) hx?)
          have HTc := Lib.hid (cntS_take hx?)
          have HTd := Lib.hid (dpS_take hx?)
          have HTl := Lib.hid (cntS_le ps (j + 1))
          have hzx := szS_mem hx?
          have hzm := HZs.out
          clear hx? hkc
          generalize ps[j] = y at *
          have HY := Lib.hid (fun o => HI.out y C cc d' (wr.alloc o) cn' q' hr (by omega) (B2.out.alloc B2.out.size o) (S2.out.below ((Below.refl _ _).alloc (Nat.le_refl _) o)) h30' hq5')
          have HGa := Lib.hid (fun o => gb_more G2.out ((Below.refl _ wr).alloc (Nat.le_refl _) o))
          obtain ⟨ry, HRy⟩ : ∃ r, Hid (r = (okT k0 y && decide (cn' + cntT y ≤ 30))) := ⟨_, Lib.hid rfl⟩
          rw [← HRy.out] at HY
          clear hr hzx hzm hd
          generalize cntT y = cy at *
          generalize dpT y = dy at *
          generalize okT k0 y = oy at *
          obtain ⟨yo, yw, yt, ya, yp⟩ := y
          simp only [Tr.op, Tr.wd, Tr.tx, Tr.af, Tr.ps] at HY e0 e1 e2 e3 e4
          generalize yp.length = yn at *
          go_wp2_with fail
          refine (HY.out _).mono ?_
          rintro e w2 ⟨cn2, q2, rfl, g2, z2, hp2⟩
          have G3 := Lib.hid (gb_trans (HGa.out _) g2)
          have B3 := Lib.hid (gb_below (B2.out.alloc B2.out.size _) g2 hbs)
          have S3 := Lib.hid z2
          have HP2 := Lib.hid hp2
          clear g2 z2 hp2 HGa HY
          cases ry with
          | true =>
            have HP3 := Lib.hid (HP2.out rfl)
            have h302 : cn2 ≤ 30 := by
              have h1 := HP3.out.1
              have h2 := HRy.out.symm
              simp only [Bool.and_eq_true, decide_eq_true_eq] at h2
              omega
            have hq52 : q2 ≤ 5 := HP3.out.2.2
            have HD2 : Hid ((ps.drop (j + 1)).all (okT k0) = ps.all (okT k0)) := Lib.hid (by
              have h2 := HRy.out.symm
              simp only [Bool.and_eq_true, decide_eq_true_eq] at h2
              rw [← HD.out, HA.out, h2.1, Bool.true_and])
            have HC3 : Hid (cn2 = cn + 1 + cntS (ps.take (j + 1))) := Lib.hid (by rw [HP3.out.1, C2.out, HTc.out]; omega)
            have HQ3 : Hid (q2 = max q (level + dpS (ps.take (j + 1)))) := Lib.hid (by rw [HP3.out.2.1, Q2.out, HTd.out, Hl1.out]; omega)
            clear HP3 HP2 HRy HA HTc HTd HTl HD C2 Q2 S2 B2 G2
            go_wp2_with fail
            go_roundw
            case rel => exact ⟨j + 1, cn2, q2, by omega, by go_num, h302, hq52, G3, B3, S3, HC3, HQ3, HD2⟩
            case measure => simp [intOf]; omega
          | false =>
            have HE : Hid (r = false) := Lib.hid (by
              have h1 := HRy.out.symm
              rw [HRr.out, HO.out, ← HD.out, HA.out]
              cases oy with
              | false => rfl
              | true =>
                rw [Bool.true_and] at h1
                have h2 := of_decide_eq_false h1
                rw [decide_eq_false (by have := HQc.out; have := C2.out; have := HTc.out; have := HTl.out; omega)]
                simp)
            clear HP2 HRy HA HTc HTd HTl HD C2 Q2 S2 B2 G2
            go_wp2_with fail
            go_ret
            exact ⟨cn2, q2, by rw [HE.out]; rfl, G3.out, S3.out, fun h => by rw [HE.out] at h; cases h⟩
        · have hdn : ps.length ≤ j := by have := HN.out; omega
          have htk : ps.take j = ps := List.take_of_length_le hdn
          have HC3 : Hid (cn' = cn + ctx) := Lib.hid (by rw [C2.out, htk, HQc.out]; omega)
          have HQ3 : Hid (q' = max q (level - 1 + dpx)) := Lib.hid (by rw [Q2.out, htk, HQd.out]; have := hlv1.out; omega)
          have HE : Hid (r = true) := Lib.hid (by
            rw [HRr.out, HO.out, ← HD.out, all_doneT _ hdn, decide_eq_true (by have := HC3.out; omega)]; rfl)
          clear htk hdn
          go_wp2_with fail
          go_ret
          exact ⟨cn', q', by rw [HE.out]; rfl, G2.out, S2.out, fun _ => ⟨HC3.out, HQ3.out, hq5'⟩⟩
  · have HE : Hid (r = false) := Lib.hid (by
      rw [HRr.out, decide_eq_false (by have := HQc.out; have := Hc1.out; omega), Bool.and_false])
    clear hT hb HI
    go_enter Tryd.func36, Tryd.ntmps36
    go_wp2_with fail
    all_goals
      go_ret
      exact ⟨c1, qq, by rw [HE.out]; rfl, HG.out, HSz.out, fun h => by rw [HE.out] at h; cases h⟩
theorem add_all (k : Nat) (hk : k ≤ 5) : AddT k := by
  induction k with
  | zero => exact add_0
  | succ k ih => exact add_step k (by omega) (ih (by omega))
end Go.Proofs.YtbibjcmfgpmddaaDoor.Nd
