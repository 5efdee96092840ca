/-
  Contract of ReplaceField of the model; that it changes as the program does.
-/
import Derived.Test.YtldfdfdleaemaaaDoorNdRs
namespace Go.Proofs.YtldfdfdleaemaaaDoor.Nd
open Go.RowKit NdPl Ns
set_option linter.unusedSimpArgs false
set_option linter.unusedVariables false

theorem fld_ne {s : ByteArray} (h : isSF s = true) : em s = false ∧ kd s = 0 := by
  have h1 : s ∈ sfs := (Lib.containsS_iff _ _).1 h
  simp only [sfs, fws, List.mem_append, List.mem_cons, List.not_mem_nil, or_false, or_assoc] at h1
  rcases h1 with rfl | rfl | rfl | rfl | rfl | rfl | rfl | rfl | rfl | rfl <;> exact ⟨by decide, by decide⟩
theorem at_node (old fld : ByteArray) (y : Tr) (hf : isSF old = true) (hs : shB y.op y.wd y.tx y.af y.ps.length = true) : mrF old fld y = rpF old fld y := by
  unfold mrF rpF
  by_cases hw : y.wd = old
  · rw [if_pos hw]
    by_cases ho : y.op = 1 ∨ y.op = 4
    · rw [if_pos ⟨ho, hw⟩]
    · exfalso
      rw [hw] at hs
      obtain ⟨h1, h2⟩ := fld_ne hf
      unfold shB at hs
      have n1 : ¬ y.op = 1 := fun h => ho (Or.inl h)
      have n4 : ¬ y.op = 4 := fun h => ho (Or.inr h)
      rw [if_neg n1] at hs
      simp only [if_neg n4] at hs
      rw [h1, h2] at hs
      simp at hs
  · rw [if_neg hw, if_neg (fun h => hw h.2)]
theorem same_change (old fld : ByteArray) (hf : isSF old = true) (k : Nat) : ∀ x, okT k x = true → chT (mrF old fld) x = chT (rpF old fld) x := by
  induction k with
  | zero => intro x h; cases h
  | succ k ih =>
    intro x h
    have h' : (shB x.op x.wd x.tx x.af x.ps.length && x.ps.all (okT k)) = true := h
    rw [Bool.and_eq_true] at h'
    have hc : chS (mrF old fld) x.ps = chS (rpF old fld) x.ps := by
      rw [chS_map, chS_map]
      exact List.map_congr_left (fun y hy => ih y (List.all_eq_true.1 h'.2 y hy))
    rw [chT_eq, chT_eq, hc]
    exact at_node old fld _ hf (by simp only [op_mk, wd_mk, tx_mk, af_mk, ps_mk, chS_len]; exact h'.1)
set_option maxRecDepth 100000 in
set_option maxHeartbeats 4000000 in
theorem replace_s (old fld : ByteArray) (nm : Int) (x : Tr) (B : Option Addr) (c d : Nat) (w : World) (hr : RdL d w B x.ps) (hz : szT x ≤ 1048576) :
    Calls Tryd.prog 7 #[stV nm x.op x.wd x.tx x.af B x.ps.length c, .string old, .string fld] w (StPost (d + 1) w w.heap.size (rpB old fld nm x) (rpN old fld nm x) (rpT old fld nm x)) := by
  have H0 := Lib.hid (fun w1 (h : Below w.heap.size w w1) => good_s nm x B c d w1 (hr.below h) hz (gdB nm x) rfl)
  have H1 := Lib.hid (fun w => sfield_s old (isSF old) w rfl)
  have H2 := Lib.hid (fun w => sfield_s fld (isSF fld) w rfl)
  obtain ⟨z, hzz⟩ : ∃ z, z = chT (rpF old fld) x := ⟨_, rfl⟩
  have HC0 : Hid (gdB nm x = true → isSF old = true → ∀ w1, Below w.heap.size w w1 → Calls Tryd.prog 20 #[ndV x.op x.wd x.tx x.af B x.ps.length c, .string old, .string fld] w1 (NdPost (d + 1) w1 w1.heap.size z)) := Lib.hid (fun hg hf w1 h => by
    have h1 : okT 5 x = true := by unfold gdB at hg; simp only [Bool.and_eq_true] at hg; exact hg.1.2
    rw [hzz, ← same_change old fld hf 5 x h1]
    exact sRp_all d old fld x B c w1 (hr.below h) hz)
  have HR : Hid (rpB old fld nm x = (isSF old && isSF fld && gdB nm x)) := Lib.hid rfl
  have HN : Hid (rpN old fld nm x = if rpB old fld nm x = true then nm else 0) := Lib.hid rfl
  have HG : Hid (rpT old fld nm x = if rpB old fld nm x = true then z else zT) := Lib.hid (by rw [hzz]; rfl)
  clear hzz
  generalize rpN old fld nm x = rn at *
  generalize rpT old fld nm x = rt at *
  generalize rpB old fld nm x = rb at *
  generalize gdB nm x = ok at *
  generalize isSF old = s1 at *
  generalize isSF fld = s2 at *
  clear hr hz
  obtain ⟨op, wd, tx, af, ps⟩ := x
  simp only [op_mk, wd_mk, tx_mk, af_mk, ps_mk] at *
  generalize ps.length = n at *
  have HW := Lib.hid (two_world w #[.int .i64 nm, .int .i64 op, .string wd, .string tx, .string af, .slice B n c] #[.int .i64 0, .int .i64 0, .string ⟨#[]⟩, .string ⟨#[]⟩, .string ⟨#[]⟩, .slice none 0 0] 32 32)
  go_enter Tryd.func7, Tryd.ntmps7
  go_wp2_with fail
  generalize (w.alloc _).alloc _ = w0 at HW ⊢
  have B8 := Lib.hid HW.out.1
  have HX8 := Lib.hid HW.out.2.1
  have HY8 := Lib.hid HW.out.2.2.1
  have HS8 := Lib.hid HW.out.2.2.2
  clear HW
  refine (H0.out _ B8.out).mono ?_
  rintro e w1 ⟨rfl, b1⟩
  have B9 := Lib.hid (B8.out.trans (b1.mono B8.out.size))
  have HX9 := Lib.hid (HX8.out.below b1)
  have HY9 := Lib.hid (HY8.out.below b1)
  have HS9 := Lib.hid (Nat.le_trans HS8.out b1.size)
  clear b1 B8 HX8 HY8 HS8
  cases ok with
  | false =>
    replace HR : Hid (rb = false) := Lib.hid (by rw [HR.out, Bool.and_false])
    have y0 := HY9.out.1.2 0 _ rfl
    have q0 := HY9.out.2 0
    have y1 := HY9.out.1.2 1 _ rfl
    have q1 := HY9.out.2 1
    have y2 := HY9.out.1.2 2 _ rfl
    have q2 := HY9.out.2 2
    have y3 := HY9.out.1.2 3 _ rfl
    have q3 := HY9.out.2 3
    have y4 := HY9.out.1.2 4 _ rfl
    have q4 := HY9.out.2 4
    have y5 := HY9.out.1.2 5 _ rfl
    have q5 := HY9.out.2 5
    have hsz9 := HY9.out.1.1
    go_wp2_with fail
    refine bodyPost_ret (v := .tuple #[stV 0 0 ⟨#[]⟩ ⟨#[]⟩ ⟨#[]⟩ none 0 0, .bool false]) (by simp [results, Tryd.results7, go_sem, *]) rfl ?_
    refine ⟨none, 0, [], by rw [HN.out, HG.out, HR.out]; rfl, by rw [HG.out, HR.out]; exact OwL.nil, List.nodup_nil, fun b hb => (by cases hb), ?_⟩
    have B2 := B9.out
    first
      | (with_reducible exact B2)
      | (iterate 6 (with_reducible refine Below.setCell ?_ (by simp <;> omega) _)
         with_reducible exact B2)
  | true =>
    go_wp2_with fail
    have B8 := B9
    have HX8 := HX9
    have HY8 := HY9
    have HS8 := HS9
    clear B9 HX9 HY9 HS9
    refine (H1.out _).mono ?_
    rintro e w2 ⟨rfl, b2⟩
    have B9 := Lib.hid (B8.out.trans (b2.mono B8.out.size))
    have HX9 := Lib.hid (HX8.out.below b2)
    have HY9 := Lib.hid (HY8.out.below b2)
    have HS9 := Lib.hid (Nat.le_trans HS8.out b2.size)
    clear b2 B8 HX8 HY8 HS8
    cases s1 with
    | false =>
      replace HR : Hid (rb = false) := HR
      have y0 := HY9.out.1.2 0 _ rfl
      have q0 := HY9.out.2 0
      have y1 := HY9.out.1.2 1 _ rfl
      have q1 := HY9.out.2 1
      have y2 := HY9.out.1.2 2 _ rfl
      have q2 := HY9.out.2 2
      have y3 := HY9.out.1.2 3 _ rfl
      have q3 := HY9.out.2 3
      have y4 := HY9.out.1.2 4 _ rfl
      have q4 := HY9.out.2 4
      have y5 := HY9.out.1.2 5 _ rfl
      have q5 := HY9.out.2 5
      have hsz9 := HY9.out.1.1
      go_wp2_with fail
      refine bodyPost_ret (v := .tuple #[stV 0 0 ⟨#[]⟩ ⟨#[]⟩ ⟨#[]⟩ none 0 0, .bool false]) (by simp [results, Tryd.results7, go_sem, *]) rfl ?_
      refine ⟨none, 0, [], by rw [HN.out, HG.out, HR.out]; rfl, by rw [HG.out, HR.out]; exact OwL.nil, List.nodup_nil, fun b hb => (by cases hb), ?_⟩
      have B2 := B9.out
      first
        | (with_reducible exact B2)
        | (iterate 6 (with_reducible refine Below.setCell ?_ (by simp <;> omega) _)
           with_reducible exact B2)
    | true =>
      go_wp2_with fail
      have B8 := B9
      have HX8 := HX9
      have HY8 := HY9
      have HS8 := HS9
      clear B9 HX9 HY9 HS9
      refine (H2.out _).mono ?_
      rintro e w3 ⟨rfl, b3⟩
      have B9 := Lib.hid (B8.out.trans (b3.mono B8.out.size))
      have HX9 := Lib.hid (HX8.out.below b3)
      have HY9 := Lib.hid (HY8.out.below b3)
      have HS9 := Lib.hid (Nat.le_trans HS8.out b3.size)
      clear b3 B8 HX8 HY8 HS8
      cases s2 with
      | false =>
        replace HR : Hid (rb = false) := HR
        have y0 := HY9.out.1.2 0 _ rfl
        have q0 := HY9.out.2 0
        have y1 := HY9.out.1.2 1 _ rfl
        have q1 := HY9.out.2 1
        have y2 := HY9.out.1.2 2 _ rfl
        have q2 := HY9.out.2 2
        have y3 := HY9.out.1.2 3 _ rfl
        have q3 := HY9.out.2 3
        have y4 := HY9.out.1.2 4 _ rfl
        have q4 := HY9.out.2 4
        have y5 := HY9.out.1.2 5 _ rfl
        have q5 := HY9.out.2 5
        have hsz9 := HY9.out.1.1
        go_wp2_with fail
        refine bodyPost_ret (v := .tuple #[stV 0 0 ⟨#[]⟩ ⟨#[]⟩ ⟨#[]⟩ none 0 0, .bool false]) (by simp [results, Tryd.results7, go_sem, *]) rfl ?_
        refine ⟨none, 0, [], by rw [HN.out, HG.out, HR.out]; rfl, by rw [HG.out, HR.out]; exact OwL.nil, List.nodup_nil, fun b hb => (by cases hb), ?_⟩
        have B2 := B9.out
        first
          | (with_reducible exact B2)
          | (iterate 6 (with_reducible refine Below.setCell ?_ (by simp <;> omega) _)
             with_reducible exact B2)
      | true =>
        replace HR : Hid (rb = true) := HR
        have HC := Lib.hid (HC0.out (by first | rfl | trivial) (by first | rfl | trivial))
        clear HC0
        have HCd := Lib.hid (HC.out w3.drew B9.out.drew)
        have hX : Bw w3.drew w.heap.size [.int .i64 nm, .int .i64 op, .string wd, .string tx, .string af, .slice B n c] := HX9.out
        have HXd := Lib.hid hX
        have x0 := hX.1.2 0 _ rfl
        have x1 := hX.1.2 1 _ rfl
        have x2 := hX.1.2 2 _ rfl
        have x3 := hX.1.2 3 _ rfl
        have x4 := hX.1.2 4 _ rfl
        have x5 := hX.1.2 5 _ rfl
        have HYd : Hid (Bw w3.drew (w.heap.size + 1) [.int .i64 0, .int .i64 0, .string ⟨#[]⟩, .string ⟨#[]⟩, .string ⟨#[]⟩, .slice none 0 0]) := HY9
        have HSd : Hid (w.heap.size + 2 ≤ w3.drew.heap.size) := HS9
        have HBd := Lib.hid B9.out.drew
        clear hX HX9 HY9 B9 HC HS9
        go_wp2_with fail
        go_region_with (go_at_call 20; refine HCd.out.mono ?_; rintro e w6 ⟨A6, c6, F6, rfl, o6, n6, f6, b6⟩; have HX6 := Lib.hid (HXd.out.below b6); have HY6 := Lib.hid (HYd.out.below b6); have v0 := HX6.out.1.2 0 _ rfl; have y0 := HY6.out.1.2 0 _ rfl; have y1 := HY6.out.1.2 1 _ rfl; have y2 := HY6.out.1.2 2 _ rfl; have y3 := HY6.out.1.2 3 _ rfl; have y4 := HY6.out.1.2 4 _ rfl; have y5 := HY6.out.1.2 5 _ rfl; have q0 := HY6.out.2 0; have q1 := HY6.out.2 1; have q2 := HY6.out.2 2; have q3 := HY6.out.2 3; have q4 := HY6.out.2 4; have q5 := HY6.out.2 5; have hsz6 : w.heap.size + 1 < w6.heap.size := HY6.out.1.1)
        all_goals
          have HO6 := Lib.hid o6
          have HN6 := Lib.hid n6
          have HF6 := Lib.hid f6
          have HB6 := Lib.hid (HBd.out.trans (b6.mono HBd.out.size))
          obtain ⟨zo, zw, zt, za, zp⟩ := z
          simp only [op_mk, wd_mk, tx_mk, af_mk, ps_mk] at HO6 ⊢
          obtain ⟨zn, hzn⟩ : ∃ n, n = zp.length := ⟨_, rfl⟩
          have HZn := Lib.hid hzn
          rw [← hzn]
          clear o6 n6 f6 b6 HX6 HY6 hzn HCd HXd HYd HBd
          go_wp2_with fail
          refine bodyPost_ret (v := .tuple #[stV nm zo zw zt za A6 zn c6, .bool true]) (by simp [results, Tryd.results7, go_sem, *]) rfl ?_
          refine ⟨A6, c6, F6, by rw [HN.out, HG.out, HR.out, HZn.out]; rfl, ?_, HN6.out, fun b hb => by have := HF6.out b hb; have := HSd.out; omega, ?_⟩
          · rw [HG.out, HR.out]
            have O2 := HO6.out
            have hF2 : ∀ b ∈ F6, w.heap.size + 2 ≤ b := fun b hb => Nat.le_trans HSd.out (HF6.out b hb)
            iterate 6 (refine own_off ?_ hF2 (by simp) _)
            exact O2
          · have B2 := HB6.out
            iterate 6 (refine Below.setCell ?_ (by simp) _)
            exact B2
end Go.Proofs.YtldfdfdleaemaaaDoor.Nd
