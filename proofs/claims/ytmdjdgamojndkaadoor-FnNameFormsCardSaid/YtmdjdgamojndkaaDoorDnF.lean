/-
  Drawing functions of chapter 2: DrawIsValidName, DrawInverseForm, DrawParseInverse.
-/
import Derived.Test.YtmdjdgamojndkaaDoorDnW
import Derived.Test.YtmdjdgamojndkaaDoorForms3
import Derived.Test.YtmdjdgamojndkaaDoorDwS
namespace Go.Proofs.YtmdjdgamojndkaaDoor.StN
open Go.RowKit Pl Cur Draw0 Strs Help Name NmPl Forms NGood
set_option linter.unusedVariables false
set_option linter.unusedSimpArgs false

/-- one drawn name, to be read -/
def Drawn1 (w : World) (e : Ending) (w' : World) : Prop :=
  ∃ A c xs p f s, e = .returned (nmV (.slice A (xs : List ByteArray).length c) p f s) ∧ Gv w' (w.heap.size + 1) (.slice A xs.length c) xs ∧ xs.length ≤ 4 ∧ (∀ x ∈ xs, Sm x) ∧ Sm p ∧ Sm f ∧ Sm s ∧ Below w.heap.size w w'
theorem bel4 {w W : World} {b : Nat} {v0 v1 v2 v3 : Value} (h : Below w.heap.size w W) (hb : w.heap.size ≤ b) : Below w.heap.size w ((((W.setCell ⟨b, 0, none⟩ v0).setCell ⟨b, 1, none⟩ v1).setCell ⟨b, 2, none⟩ v2).setCell ⟨b, 3, none⟩ v3) :=
  Below.setCell (p := ⟨b, 3, none⟩) (Below.setCell (p := ⟨b, 2, none⟩) (Below.setCell (p := ⟨b, 1, none⟩) (Below.setCell (p := ⟨b, 0, none⟩) h hb v0) hb v1) hb v2) hb v3
theorem fin4b {w W2 : World} {b B : Nat} {xs : List ByteArray} {va : Value} (hS : Below w.heap.size w W2) (hb : w.heap.size ≤ b) (hb2 : b < B)
    {v0 : Value} {e1 e2 e3 : ByteArray} (hp : C4F W2 b v0 e1 e2 e3) (hGa : Gv W2 B va xs) (pa fa sa : ByteArray) :
    Below w.heap.size w ((((W2.setCell ⟨b, 0, none⟩ va).setCell ⟨b, 1, none⟩ (.string pa)).setCell ⟨b, 2, none⟩ (.string fa)).setCell ⟨b, 3, none⟩ (.string sa)) ∧ C4 ((((W2.setCell ⟨b, 0, none⟩ va).setCell ⟨b, 1, none⟩ (.string pa)).setCell ⟨b, 2, none⟩ (.string fa)).setCell ⟨b, 3, none⟩ (.string sa)) b va pa fa sa ∧ Gv ((((W2.setCell ⟨b, 0, none⟩ va).setCell ⟨b, 1, none⟩ (.string pa)).setCell ⟨b, 2, none⟩ (.string fa)).setCell ⟨b, 3, none⟩ (.string sa)) B va xs :=
  ⟨bel4 hS hb, (hp.set4 va pa fa sa).1, hGa.set4 hb2 _ _ _ _⟩
set_option maxRecDepth 100000 in
set_option maxHeartbeats 2000000 in
theorem draw1_any (A : Option Addr) (n c : Nat) (w : World) (hn : n ≤ 65536) (hr : RdB w A n) (ha : Apart A n w.heap.size) :
    Calls Tryd.prog 15 #[.slice A n c] w (Drawn1 w) := by
  have HB := Lib.hid ((Below.refl _ w).alloc (Nat.le_refl _) (.cells #[.slice none 0 0, .string ⟨#[]⟩, .string ⟨#[]⟩, .string ⟨#[]⟩] 26))
  have HP := Lib.hid (C4F.new w (.slice none 0 0) ⟨#[]⟩ ⟨#[]⟩ ⟨#[]⟩ 26)
  have HR := Lib.hid (rdb_below hr ha HB.out)
  have HA := Lib.hid ha
  have HSz : Hid ((w.alloc (.cells #[.slice none 0 0, .string ⟨#[]⟩, .string ⟨#[]⟩, .string ⟨#[]⟩] 26)).heap.size = w.heap.size + 1) := Lib.hid (by simp)
  clear hr ha
  go_enter Tryd.func15, Tryd.ntmps15
  go_wp2_with fail
  generalize hW : w.alloc (.cells #[.slice none 0 0, .string ⟨#[]⟩, .string ⟨#[]⟩, .string ⟨#[]⟩] 26) = w1 at HP HB HR HSz ⊢
  clear hW
  have HA1 : Hid (Apart A n w1.heap.size) := Lib.hid (fun hp a h => Nat.lt_of_lt_of_le (HA.out hp a h) HB.out.size)
  have HC := Lib.hid (cur_new w1 A n c)
  have HR2 := Lib.hid (rdb_new HR.out HA1.out (.cells #[.slice A n c, .int .i64 0, .int .u64 0] 46))
  rw [HSz.out] at HC HA1
  refine (anyName_any (w.heap.size + 1) A n c 0 0 _ (by omega) (by omega) HC.out HR2.out HA1.out).mono ?_
  rintro e w2 ⟨Av, cv, xs, p, fam, sf, rfl, hG, hxl, hX, hp, hf, hs, hl⟩
  have hg := hl.2
  rw [← HSz.out] at hg
  have hbn : Below w1.heap.size w1 w2 := below_new hg
  have HB2 := Lib.hid (HB.out.trans (hbn.mono HB.out.size))
  have HP2 := Lib.hid (C4F.grown hl.2 (by simp <;> omega) (HP.out.alloc (.cells #[.slice A n c, .int .i64 0, .int .u64 0] 46)))
  have HG2 := Lib.hid (hG.base (show w.heap.size + 1 ≤ (w1.alloc (.cells #[.slice A n c, .int .i64 0, .int .u64 0] 46)).heap.size + 1 by have := HSz.out; simp; omega))
  have HX := Lib.hid hX
  clear hg hbn hl hG hX HB HP HR HA HSz HA1 HC HR2
  obtain ⟨⟨pl, p0, p1, pp2, p3⟩, pf0, pf1, pf2, pf3⟩ := HP2.out
  go_wp2_with fail
  have HF := fin4b (b := w.heap.size) (B := w.heap.size + 1) HB2.out (Nat.le_refl _) (by omega) HP2.out HG2.out p fam sf
  generalize hW : ((((w2.setCell ⟨w.heap.size, 0, none⟩ (.slice Av xs.length cv)).setCell ⟨w.heap.size, 1, none⟩ (.string p)).setCell ⟨w.heap.size, 2, none⟩ (.string fam)).setCell ⟨w.heap.size, 3, none⟩ (.string sf)) = w3 at HF ⊢
  clear hW p0 p1 pp2 p3 pf0 pf1 pf2 pf3 HP2 HG2 HB2
  obtain ⟨hS3, hp3, hg3⟩ := HF
  obtain ⟨_, u0, u1, u2, u3⟩ := hp3
  exact bodyPost_ret (v := nmV (.slice Av xs.length cv) p fam sf) (by simp [results, Tryd.results15, go_sem, u0, u1, u2, u3]) rfl ⟨Av, cv, xs, p, fam, sf, rfl, hg3, hxl, HX.out, hp, hf, hs, hS3⟩
set_option maxRecDepth 100000 in
set_option maxHeartbeats 2000000 in
theorem drawInv_any (A : Option Addr) (n c : Nat) (w : World) (hn : n ≤ 65536) (hr : RdB w A n) (ha : Apart A n w.heap.size) :
    Calls Tryd.prog 5 #[.slice A n c] w (Drawn1 w) := by
  have HB := Lib.hid ((Below.refl _ w).alloc (Nat.le_refl _) (.cells #[.slice none 0 0, .string ⟨#[]⟩, .string ⟨#[]⟩, .string ⟨#[]⟩] 26))
  have HP := Lib.hid (C4F.new w (.slice none 0 0) ⟨#[]⟩ ⟨#[]⟩ ⟨#[]⟩ 26)
  have HR := Lib.hid (rdb_below hr ha HB.out)
  have HA := Lib.hid ha
  clear hr ha
  go_enter Tryd.func5, Tryd.ntmps5
  go_wp2_with fail
  generalize hW : w.alloc (.cells #[.slice none 0 0, .string ⟨#[]⟩, .string ⟨#[]⟩, .string ⟨#[]⟩] 26) = w1 at HP HB HR ⊢
  clear hW
  have HA1 : Hid (Apart A n w1.heap.size) := Lib.hid (fun hp a h => Nat.lt_of_lt_of_le (HA.out hp a h) HB.out.size)
  refine (draw1_any A n c _ hn HR.out HA1.out).mono ?_
  rintro e w2 ⟨Av, cv, xs, p, fam, sf, rfl, hG, hxl, hX, hp, hf, hs, hbn⟩
  have HB2 := Lib.hid (HB.out.trans (hbn.mono HB.out.size))
  have HP2 : Hid (C4F w2 w.heap.size (.slice none 0 0) ⟨#[]⟩ ⟨#[]⟩ ⟨#[]⟩) := Lib.hid (C4F.grown (r := none) ⟨hbn.os, hbn.tape, hbn.output, hbn.size, fun q hq _ => hbn.block q hq⟩ (by simp) HP.out)
  have HG2 := Lib.hid (hG.base (show w.heap.size + 1 ≤ w1.heap.size + 1 by have := HB.out.size; omega))
  have HX := Lib.hid hX
  clear hbn hX HB HP HR HA HA1 hG
  obtain ⟨⟨pl, p0, p1, pp2, p3⟩, pf0, pf1, pf2, pf3⟩ := HP2.out
  go_wp2_with fail
  have hC := (HP2.out.set4 (.slice Av xs.length cv) p fam sf).1
  have hS := bel4 (v0 := .slice Av xs.length cv) (v1 := .string p) (v2 := .string fam) (v3 := .string sf) HB2.out (Nat.le_refl _)
  have hK := HG2.out.set4 (show w.heap.size < w.heap.size + 1 by omega) (.slice Av xs.length cv) (.string p) (.string fam) (.string sf)
  generalize hW : ((((w2.setCell ⟨w.heap.size, 0, none⟩ (.slice Av xs.length cv)).setCell ⟨w.heap.size, 1, none⟩ (.string p)).setCell ⟨w.heap.size, 2, none⟩ (.string fam)).setCell ⟨w.heap.size, 3, none⟩ (.string sf)) = w3 at hC hS hK ⊢
  clear hW p0 p1 pp2 p3 pf0 pf1 pf2 pf3 HP2 HB2 HG2
  obtain ⟨_, u0, u1, u2, u3⟩ := hC
  exact bodyPost_ret (v := nmV (.slice Av xs.length cv) p fam sf) (by simp [results, Tryd.results5, go_sem, u0, u1, u2, u3]) rfl ⟨Av, cv, xs, p, fam, sf, rfl, hK, hxl, HX.out, hp, hf, hs, hS⟩
theorem inv_len (xs : List ByteArray) (p f s : ByteArray) : (ba (invL xs p f s)).size ≤ lens xs + xs.length + p.size + f.size + s.size + 8 := by
  have h1 := jn_len [p, f]
  have h2 := jn_len xs
  have e1 : ls [p, f] = [p.data.toList, f.data.toList] := rfl
  rw [e1] at h1
  simp [lens] at h1
  rw [ba_size]
  unfold invL
  rw [List.length_append, List.length_append]
  have e2 : (if 0 < xs.length ∨ s.data.toList ≠ [] then [44, 32] ++ jn (ls xs) else []).length ≤ 2 + (jn (ls xs)).length := by
    split
    · simp; omega
    · simp
  have e3 : (if s.data.toList ≠ [] then [44, 32] ++ s.data.toList else []).length ≤ 2 + s.size := by
    split
    · have hz : s.data.size = s.size := rfl
      simp; omega
    · simp
  omega
theorem lens_sm : ∀ (xs : List ByteArray), (∀ x ∈ xs, Sm x) → lens xs ≤ 16 * xs.length
  | [], _ => by simp [lens]
  | x :: xs, h => by
    have h1 := lens_sm xs (fun y hy => h y (List.mem_cons_of_mem _ hy))
    have h2 : x.size ≤ 16 := h x List.mem_cons_self
    have h3 : lens (x :: xs) = x.size + lens xs := by simp [lens]
    rw [h3, List.length_cons]; omega
set_option maxRecDepth 100000 in
set_option maxHeartbeats 2000000 in
theorem drawPi_any (A : Option Addr) (n c : Nat) (w : World) (hn : n ≤ 65536) (hr : RdB w A n) (ha : Apart A n w.heap.size) :
    Calls Tryd.prog 11 #[.slice A n c] w fun e w' => ∃ t : ByteArray, e = .returned (.string t) ∧ t.size ≤ 400 ∧ Below w.heap.size w w' := by
  have HR := Lib.hid (rdb_new hr ha (.cells #[.slice A n c, .int .i64 0, .int .u64 0] 46))
  have HA := Lib.hid ha
  have HC := Lib.hid (cur_new w A n c)
  clear hr ha
  go_enter Tryd.func11, Tryd.ntmps11
  go_wp2_with fail
  refine (name_any w.heap.size A n c 0 0 _ (by omega) (by omega) HC.out HR.out HA.out).mono ?_
  rintro e w1 ⟨Av, cv, xs, p, fam, sf, rfl, hG, hxl, hX, hp, hf, hs, ⟨k1, s1, hk1, hc1⟩, hg1⟩
  have HG1 := Lib.hid hg1
  have hl := lens_sm xs hX
  unfold Sm at hp hf hs
  have HT := Lib.hid (Forms.l2Inverse Av cv _ xs p fam sf w1 (Rdn.own hG) (by omega))
  have htl := inv_len xs p fam sf
  have hts : (ba (invL xs p fam sf)).size ≤ 300 := by omega
  generalize ba (invL xs p fam sf) = t at *
  clear hg1 hG hX htl
  go_wp2_with fail
  refine HT.out.mono ?_
  rintro e w2 ⟨rfl, b2⟩
  have hgl : w.heap.size < w1.heap.size := hc1.lt
  have hc2 : IsCur w2 w.heap.size A n c k1 s1 := (b2.block _ hgl).trans hc1
  have HG2 := Lib.hid (grown_below HG1.out b2)
  have HR2 := Lib.hid (HR.out.grown HA.out HG2.out)
  clear b2 HT HG1 hc1
  go_wp2_with fail
  refine (one_any 3 (by omega) (by omega) w.heap.size A n c k1 s1 _ (by omega) (by omega) hc2 HR2.out HA.out).mono ?_
  rintro e w3 ⟨r, rfl, ⟨k3, s3, hk3, hc3⟩, hg3⟩
  have HG3 := Lib.hid (Cur.grown_trans HG2.out hg3)
  have HR3 := Lib.hid (HR.out.grown HA.out HG3.out)
  clear hg3
  cases r with
  | true =>
    go_wp2_with fail
    refine (Dw.spoilt_any t ⟨#[97, 44, 32, 66, 74, 45, 39]⟩ (by omega) (by decide) (by decide) w.heap.size A n c k3 s3 _ (by omega) (by omega) hc3 HR3.out HA.out).mono ?_
    rintro e w4 ⟨y, hy, rfl, hl4⟩
    have HB := Lib.hid (below_new (Cur.grown_trans HG3.out hl4.2))
    clear hl4
    go_wp2_with fail
    go_ret
    exact ⟨y, rfl, by omega, HB.out⟩
  | false =>
    have HB := Lib.hid (below_new HG3.out)
    go_wp2_with fail
    go_ret
    exact ⟨t, rfl, by omega, HB.out⟩
end Go.Proofs.YtmdjdgamojndkaaDoor.StN
