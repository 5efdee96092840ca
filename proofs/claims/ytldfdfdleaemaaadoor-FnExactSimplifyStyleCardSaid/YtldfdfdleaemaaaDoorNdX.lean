/-
  The text of a node; contracts of l9Head and l9Text of the model.
-/
import Derived.Test.YtldfdfdleaemaaaDoorNdG
import Derived.Lib.Join
namespace Go.Proofs.YtldfdfdleaemaaaDoor.Nd
open Go.RowKit NdPl Ns
set_option linter.unusedSimpArgs false
set_option linter.unusedVariables false

/-- what stands before the parts -/
def hdL (op : Int) (wd tx af : ByteArray) : List UInt8 :=
  if op = 3 then [103, 114, 111, 117, 112, 32, 34] ++ tx.data.toList ++ [34]
  else if op = 4 then [105, 102, 32] ++ wd.data.toList
  else if op = 5 then [107, 105, 110, 100, 32] ++ wd.data.toList
  else if op = 6 then [102, 105, 114, 115, 116]
  else if op = 7 then [97, 102, 102, 105, 120, 32, 34] ++ tx.data.toList ++ [34, 32, 34] ++ af.data.toList ++ [34]
  else if op = 8 then [105, 116, 97, 108, 105, 99]
  else [98, 111, 108, 100]
mutual
/-- the text of a node -/
def tT : Tr → List UInt8
  | .mk op wd tx af l => if op = 1 then wd.data.toList else if op = 2 then [34] ++ tx.data.toList ++ [34] else [40] ++ hdL op wd tx af ++ tS l ++ [41]
def tS : List Tr → List UInt8
  | [] => []
  | x :: r => [32] ++ tT x ++ tS r
end
theorem opx_mk (o : Int) (a b c : ByteArray) (l : List Tr) : (Tr.mk o a b c l).op = o := rfl
theorem wdx_mk (o : Int) (a b c : ByteArray) (l : List Tr) : (Tr.mk o a b c l).wd = a := rfl
theorem txx_mk (o : Int) (a b c : ByteArray) (l : List Tr) : (Tr.mk o a b c l).tx = b := rfl
theorem afx_mk (o : Int) (a b c : ByteArray) (l : List Tr) : (Tr.mk o a b c l).af = c := rfl
theorem psx_mk (o : Int) (a b c : ByteArray) (l : List Tr) : (Tr.mk o a b c l).ps = l := rfl
theorem tS_app (A B : List Tr) : tS (A ++ B) = tS A ++ tS B := by
  induction A with
  | nil => rfl
  | cons x r ih => simp [tS, ih]
theorem tS_take {L : List Tr} {k : Nat} {x : Tr} (h : L[k]? = some x) : tS (L.take (k + 1)) = tS (L.take k) ++ ([32] ++ tT x) := by
  rw [List.take_add_one, h, tS_app]; simp [tS]
theorem sz_list (s : ByteArray) : s.data.toList.length = s.size := by rw [Array.length_toList]; rfl
theorem hd_len (op : Int) (wd tx af : ByteArray) : (hdL op wd tx af).length ≤ wd.size + tx.size + af.size + 20 := by
  have h1 := sz_list wd
  have h2 := sz_list tx
  have h3 := sz_list af
  unfold hdL
  repeat' split
  all_goals simp only [List.length_append, List.length_cons, List.length_nil]; omega
mutual
theorem t_len (x : Tr) : (tT x).length ≤ szT x + 40 * cntT x := by
  cases x with
  | mk op wd tx af l =>
    have h := ts_len l
    have h0 := hd_len op wd tx af
    have h1 := sz_list wd
    have h2 := sz_list tx
    simp only [tT, szT, cntT]
    split
    · omega
    · split
      · simp only [List.length_append, List.length_cons, List.length_nil]; omega
      · simp only [List.length_append, List.length_cons, List.length_nil]; omega
theorem ts_len (L : List Tr) : (tS L).length ≤ szS L + 40 * cntS L + L.length := by
  cases L with
  | nil => simp [tS]
  | cons x r =>
    have h1 := t_len x
    have h2 := ts_len r
    simp only [tS, szS, cntS, List.length_append, List.length_cons, List.length_nil]
    omega
end
theorem cat_list (a b : ByteArray) : (a ++ b).data.toList = a.data.toList ++ b.data.toList := by
  rw [ByteArray.data_append, Array.toList_append]
theorem eq_ba {s : ByteArray} {l : List UInt8} (h : s.data.toList = l) : s = Pl.ba l := by rw [← h, Pl.ba_toList]
set_option maxRecDepth 100000 in
set_option maxHeartbeats 1000000 in
theorem head_3 (wd tx af : ByteArray) (A : Option Addr) (n c : Nat) (w : World) (h1 : wd.size ≤ 1048576) (h2 : tx.size ≤ 1048576) (h3 : af.size ≤ 1048576) :
    Calls Tryd.prog 57 #[ndV 3 wd tx af A n c] w fun e w' => e = .returned (.string (Pl.ba (hdL 3 wd tx af))) ∧ Below w.heap.size w w' := by
  have HE : Hid (Pl.ba (hdL 3 wd tx af) = ((⟨#[103, 114, 111, 117, 112, 32, 34]⟩ : ByteArray) ++ tx ++ (⟨#[34]⟩ : ByteArray))) := Lib.hid (by
    refine (eq_ba ?_).symm
    show _ = [103, 114, 111, 117, 112, 32, 34] ++ tx.data.toList ++ [34]
    simp [cat_list])
  go_enter Tryd.func57, Tryd.ntmps57
  go_wp2_with fail
  go_ret
  exact ⟨by rw [HE.out]; rfl, box_below _ _⟩
set_option maxRecDepth 100000 in
set_option maxHeartbeats 1000000 in
theorem head_4 (wd tx af : ByteArray) (A : Option Addr) (n c : Nat) (w : World) (h1 : wd.size ≤ 1048576) (h2 : tx.size ≤ 1048576) (h3 : af.size ≤ 1048576) :
    Calls Tryd.prog 57 #[ndV 4 wd tx af A n c] w fun e w' => e = .returned (.string (Pl.ba (hdL 4 wd tx af))) ∧ Below w.heap.size w w' := by
  have HE : Hid (Pl.ba (hdL 4 wd tx af) = ((⟨#[105, 102, 32]⟩ : ByteArray) ++ wd)) := Lib.hid (by
    refine (eq_ba ?_).symm
    show _ = [105, 102, 32] ++ wd.data.toList
    simp [cat_list])
  go_enter Tryd.func57, Tryd.ntmps57
  go_wp2_with fail
  go_ret
  exact ⟨by rw [HE.out]; rfl, box_below _ _⟩
set_option maxRecDepth 100000 in
set_option maxHeartbeats 1000000 in
theorem head_5 (wd tx af : ByteArray) (A : Option Addr) (n c : Nat) (w : World) (h1 : wd.size ≤ 1048576) (h2 : tx.size ≤ 1048576) (h3 : af.size ≤ 1048576) :
    Calls Tryd.prog 57 #[ndV 5 wd tx af A n c] w fun e w' => e = .returned (.string (Pl.ba (hdL 5 wd tx af))) ∧ Below w.heap.size w w' := by
  have HE : Hid (Pl.ba (hdL 5 wd tx af) = ((⟨#[107, 105, 110, 100, 32]⟩ : ByteArray) ++ wd)) := Lib.hid (by
    refine (eq_ba ?_).symm
    show _ = [107, 105, 110, 100, 32] ++ wd.data.toList
    simp [cat_list])
  go_enter Tryd.func57, Tryd.ntmps57
  go_wp2_with fail
  go_ret
  exact ⟨by rw [HE.out]; rfl, box_below _ _⟩
set_option maxRecDepth 100000 in
set_option maxHeartbeats 1000000 in
theorem head_6 (wd tx af : ByteArray) (A : Option Addr) (n c : Nat) (w : World) (h1 : wd.size ≤ 1048576) (h2 : tx.size ≤ 1048576) (h3 : af.size ≤ 1048576) :
    Calls Tryd.prog 57 #[ndV 6 wd tx af A n c] w fun e w' => e = .returned (.string (Pl.ba (hdL 6 wd tx af))) ∧ Below w.heap.size w w' := by
  have HE : Hid (Pl.ba (hdL 6 wd tx af) = (⟨#[102, 105, 114, 115, 116]⟩ : ByteArray)) := Lib.hid (by
    refine (eq_ba ?_).symm
    show _ = [102, 105, 114, 115, 116]
    simp [cat_list])
  go_enter Tryd.func57, Tryd.ntmps57
  go_wp2_with fail
  go_ret
  exact ⟨by rw [HE.out]; rfl, box_below _ _⟩
set_option maxRecDepth 100000 in
set_option maxHeartbeats 1000000 in
theorem head_7 (wd tx af : ByteArray) (A : Option Addr) (n c : Nat) (w : World) (h1 : wd.size ≤ 1048576) (h2 : tx.size ≤ 1048576) (h3 : af.size ≤ 1048576) :
    Calls Tryd.prog 57 #[ndV 7 wd tx af A n c] w fun e w' => e = .returned (.string (Pl.ba (hdL 7 wd tx af))) ∧ Below w.heap.size w w' := by
  have HE : Hid (Pl.ba (hdL 7 wd tx af) = ((⟨#[97, 102, 102, 105, 120, 32, 34]⟩ : ByteArray) ++ tx ++ (⟨#[34, 32, 34]⟩ : ByteArray) ++ af ++ (⟨#[34]⟩ : ByteArray))) := Lib.hid (by
    refine (eq_ba ?_).symm
    show _ = [97, 102, 102, 105, 120, 32, 34] ++ tx.data.toList ++ [34, 32, 34] ++ af.data.toList ++ [34]
    simp [cat_list])
  go_enter Tryd.func57, Tryd.ntmps57
  go_wp2_with fail
  go_ret
  exact ⟨by rw [HE.out]; rfl, box_below _ _⟩
set_option maxRecDepth 100000 in
set_option maxHeartbeats 1000000 in
theorem head_8 (wd tx af : ByteArray) (A : Option Addr) (n c : Nat) (w : World) (h1 : wd.size ≤ 1048576) (h2 : tx.size ≤ 1048576) (h3 : af.size ≤ 1048576) :
    Calls Tryd.prog 57 #[ndV 8 wd tx af A n c] w fun e w' => e = .returned (.string (Pl.ba (hdL 8 wd tx af))) ∧ Below w.heap.size w w' := by
  have HE : Hid (Pl.ba (hdL 8 wd tx af) = (⟨#[105, 116, 97, 108, 105, 99]⟩ : ByteArray)) := Lib.hid (by
    refine (eq_ba ?_).symm
    show _ = [105, 116, 97, 108, 105, 99]
    simp [cat_list])
  go_enter Tryd.func57, Tryd.ntmps57
  go_wp2_with fail
  go_ret
  exact ⟨by rw [HE.out]; rfl, box_below _ _⟩
set_option maxRecDepth 100000 in
set_option maxHeartbeats 1000000 in
theorem head_0 (op : Int) (wd tx af : ByteArray) (A : Option Addr) (n c : Nat) (w : World) (h1 : wd.size ≤ 1048576) (h2 : tx.size ≤ 1048576) (h3 : af.size ≤ 1048576) (ho : op < 3 ∨ 8 < op) :
    Calls Tryd.prog 57 #[ndV op wd tx af A n c] w fun e w' => e = .returned (.string (Pl.ba (hdL op wd tx af))) ∧ Below w.heap.size w w' := by
  have HE : Hid (Pl.ba (hdL op wd tx af) = (⟨#[98, 111, 108, 100]⟩ : ByteArray)) := Lib.hid (by
    unfold hdL
    rw [if_neg (show ¬ op = 3 by omega)]
    rw [if_neg (show ¬ op = 4 by omega)]
    rw [if_neg (show ¬ op = 5 by omega)]
    rw [if_neg (show ¬ op = 6 by omega)]
    rw [if_neg (show ¬ op = 7 by omega)]
    rw [if_neg (show ¬ op = 8 by omega)]
    rfl)
  have e3 : (op == 3) = false := by rw [beq_eq_false_iff_ne]; omega
  have e4 : (op == 4) = false := by rw [beq_eq_false_iff_ne]; omega
  have e5 : (op == 5) = false := by rw [beq_eq_false_iff_ne]; omega
  have e6 : (op == 6) = false := by rw [beq_eq_false_iff_ne]; omega
  have e7 : (op == 7) = false := by rw [beq_eq_false_iff_ne]; omega
  have e8 : (op == 8) = false := by rw [beq_eq_false_iff_ne]; omega
  clear ho
  go_enter Tryd.func57, Tryd.ntmps57
  go_wp2_with fail
  go_ret
  exact ⟨by rw [HE.out]; rfl, box_below _ _⟩
theorem head_s (op : Int) (wd tx af : ByteArray) (A : Option Addr) (n c : Nat) (w : World) (h1 : wd.size ≤ 1048576) (h2 : tx.size ≤ 1048576) (h3 : af.size ≤ 1048576) :
    Calls Tryd.prog 57 #[ndV op wd tx af A n c] w fun e w' => e = .returned (.string (Pl.ba (hdL op wd tx af))) ∧ Below w.heap.size w w' := by
  by_cases h0 : op < 3 ∨ 8 < op
  · exact head_0 op wd tx af A n c w h1 h2 h3 h0
  · rcases (show op = 3 ∨ op = 4 ∨ op = 5 ∨ op = 6 ∨ op = 7 ∨ op = 8 by omega) with rfl | rfl | rfl | rfl | rfl | rfl
    · exact head_3 wd tx af A n c w h1 h2 h3
    · exact head_4 wd tx af A n c w h1 h2 h3
    · exact head_5 wd tx af A n c w h1 h2 h3
    · exact head_6 wd tx af A n c w h1 h2 h3
    · exact head_7 wd tx af A n c w h1 h2 h3
    · exact head_8 wd tx af A n c w h1 h2 h3
def TxT (d : Nat) : Prop := ∀ (x : Tr) (B : Option Addr) (c : Nat) (w : World), RdL d w B x.ps → szT x ≤ 1048576 →
  Calls Tryd.prog 48 #[ndV x.op x.wd x.tx x.af B x.ps.length c] w fun e w' => e = .returned (.string (Pl.ba (tT x))) ∧ Below w.heap.size w w'
set_option maxRecDepth 100000 in
set_option maxHeartbeats 4000000 in
theorem tx_step (d : Nat) (ih : ∀ d', d = d' + 1 → TxT d') : TxT d := by
  intro x B c w hr hz
  have hzs := szT_eq x
  have hcs := (cnt_szS x.ps).1
  have HI := Lib.hid ih
  obtain ⟨o, HO⟩ : ∃ o, Hid (o = Pl.ba (tT x)) := ⟨_, Lib.hid rfl⟩
  rw [← HO.out]
  obtain ⟨op, wd, tx, af, ps⟩ := x
  simp only [opx_mk, wdx_mk, txx_mk, afx_mk, psx_mk] at *
  have HX := Lib.hid (Bx.new w #[.int .i64 op, .string wd, .string tx, .string af, .slice B ps.length c] 30)
  have HB := Lib.hid (box_below w (.cells #[.int .i64 op, .string wd, .string tx, .string af, .slice B ps.length c] 30))
  have hwz : wd.size ≤ 1048576 := by omega
  have htz : tx.size ≤ 1048576 := by omega
  have haz : af.size ≤ 1048576 := by omega
  by_cases ho1 : op = 1
  · subst ho1
    have HE : Hid (o = wd) := Lib.hid (by rw [HO.out]; simp [tT, Pl.ba_toList])
    clear HO hr hz hzs hcs ih
    generalize ps.length = n at *
    go_enter Tryd.func48, Tryd.ntmps48
    go_wp2_with fail
    go_ret
    exact ⟨by rw [HE.out]; rfl, HB.out⟩
  · by_cases ho2 : op = 2
    · subst ho2
      have HE : Hid (o = ((⟨#[34]⟩ : ByteArray) ++ tx ++ (⟨#[34]⟩ : ByteArray))) := Lib.hid (by
        rw [HO.out]
        refine (eq_ba ?_).symm
        simp [tT, cat_list])
      clear HO hr hz hzs hcs ih
      generalize ps.length = n at *
      go_enter Tryd.func48, Tryd.ntmps48
      go_wp2_with fail
      go_ret
      exact ⟨by rw [HE.out]; rfl, HB.out⟩
    · have e1 : (op == 1) = false := by rw [beq_eq_false_iff_ne]; exact ho1
      have e2 : (op == 2) = false := by rw [beq_eq_false_iff_ne]; exact ho2
      have HO2 : Hid (o.data.toList = [40] ++ hdL op wd tx af ++ tS ps ++ [41]) := Lib.hid (by
        rw [HO.out, Pl.toList_ba]
        simp only [tT]
        rw [if_neg ho1, if_neg ho2])
      have HH := Lib.hid (fun w n => head_s op wd tx af B n c w hwz htz haz)
      have hhz := hd_len op wd tx af
      obtain ⟨hd, hhd⟩ : ∃ hd, hd = Pl.ba (hdL op wd tx af) := ⟨_, rfl⟩
      rw [← hhd] at HH
      have hhs : hd.size ≤ 4000000 := by rw [hhd, Pl.ba_size]; omega
      have HHd : Hid (hd.data.toList = hdL op wd tx af) := Lib.hid (by rw [hhd, Pl.toList_ba])
      have htl := ts_len ps
      have HTl : Hid ((tS ps).length ≤ 100000000) := Lib.hid (by omega)
      have HR := Lib.hid hr
      have HZs : Hid (szS ps ≤ 1048576) := Lib.hid (by omega)
      have hm : ps.length ≤ 1048576 := by omega
      obtain ⟨n, hn⟩ : ∃ n, n = ps.length := ⟨_, rfl⟩
      rw [← hn] at HB HX hm ⊢
      have HN := Lib.hid hn
      clear HO hr hz hzs hcs ih hhz hhd htl hn ho1 ho2 hwz htz haz
      go_enter Tryd.func48, Tryd.ntmps48
      go_wp2_with fail
      generalize w.alloc _ = w0 at HB HX ⊢
      refine (HH.out _ _).mono ?_
      rintro e w1 ⟨rfl, b1⟩
      have HX1 := Lib.hid (HX.out.below b1)
      have HB1 := HB.out.trans (b1.mono HB.out.size)
      have hs0 : (1 : Nat) + hd.size ≤ 150000000 := by omega
      clear b1 HX HB HH
      go_wp2_with fail
      go_loopw [3, 4] (fun s i wr => ∃ (j : Nat) (S : ByteArray), j ≤ n ∧ i = .int .i64 j ∧ s = .string S ∧ S.size ≤ 150000000 ∧ Hid (S.data.toList = [40] ++ hdL op wd tx af ++ tS (ps.take j)) ∧ Hid (Bx wr w.heap.size [.int .i64 op, .string wd, .string tx, .string af, .slice B n c]) ∧ Below w.heap.size w wr) (fun _ i _ => n - (intOf i).toNat)
      case atStart =>
        refine ⟨0, _, Nat.zero_le _, rfl, rfl, ?_, Lib.hid ?_, HX1, HB1⟩
        · have : ((⟨#[40]⟩ : ByteArray) ++ hd).size = 1 + hd.size := by rw [ByteArray.size_append]; rfl
          omega
        · rw [cat_list, HHd.out]; simp [tS]
      case round =>
        obtain ⟨j, S, hj, rfl, rfl, hS, HSl, HX2, hb⟩ := hrel
        have c4 := HX2.out.2 4 _ rfl
        by_cases hlt : j < n
        · have hjx : j < ps.length := by rw [← HN.out]; exact hlt
          have hx? := List.getElem?_eq_getElem hjx
          obtain ⟨d', g, o', C, cc, hd', rfl, hg, e0, e1', e2', e3, e4, hr⟩ := (HR.out.below hb).get hx?
          have hzx := szS_mem hx?
          have hzm := HZs.out
          have HTk := Lib.hid (tS_take hx?)
          have hpre : (tS (ps.take (j + 1))).length ≤ (tS ps).length := by
            have h := tS_app (ps.take (j + 1)) (ps.drop (j + 1))
            rw [List.take_append_drop] at h
            rw [h, List.length_append]; omega
          clear hx?
          generalize ps[j] = y at *
          have HY := Lib.hid (HI.out d' hd' y C cc wr hr (by omega))
          obtain ⟨T, hT⟩ : ∃ T, T = Pl.ba (tT y) := ⟨_, rfl⟩
          rw [← hT] at HY
          have HT : Hid (T.data.toList = tT y) := Lib.hid (by rw [hT, Pl.toList_ba])
          have hhl : (hdL op wd tx af).length ≤ 4000000 := by have h1 := sz_list hd; rw [HHd.out] at h1; omega
          have hST : S.size + 1 + T.size ≤ 150000000 := by
            have h1 := sz_list S
            rw [HSl.out] at h1
            have h2 := sz_list T
            rw [HT.out] at h2
            have h3 := HTl.out
            rw [HTk.out] at hpre
            simp only [List.length_append, List.length_cons, List.length_nil] at h1 hpre
            omega
          clear hr hzx hzm hd' hpre hT hhl
          obtain ⟨yo, yw, yt, ya, yp⟩ := y
          simp only [opx_mk, wdx_mk, txx_mk, afx_mk, psx_mk] at HY e0 e1' e2' e3 e4
          generalize yp.length = yn at *
          have hsz : (S ++ (⟨#[32]⟩ : ByteArray)).size = S.size + 1 := by rw [ByteArray.size_append]; rfl
          go_wp2_with fail
          refine HY.out.mono ?_
          rintro e w2 ⟨rfl, b2⟩
          have HX3 := Lib.hid (HX2.out.below b2)
          have hb2 := hb.trans (b2.mono hb.size)
          clear b2 HX2 HY
          go_wp2_with fail
          go_roundw
          case rel =>
            refine ⟨j + 1, _, by omega, by go_num, rfl, ?_, Lib.hid ?_, HX3, hb2⟩
            · rw [ByteArray.size_append, hsz]; omega
            · rw [cat_list, cat_list, HSl.out, HT.out, HTk.out]; simp
          case measure => simp [intOf]; omega
        · have htk : ps.take j = ps := List.take_of_length_le (by have := HN.out; omega)
          have HF : Hid (o = S ++ (⟨#[41]⟩ : ByteArray)) := Lib.hid (by
            have h1 : (S ++ (⟨#[41]⟩ : ByteArray)).data.toList = o.data.toList := by
              rw [cat_list, HSl.out, HO2.out, htk]
            rw [← Pl.ba_toList o, ← h1, Pl.ba_toList])
          clear htk
          go_wp2_with fail
          go_ret
          exact ⟨by rw [HF.out]; rfl, hb⟩
theorem tx_all (d : Nat) : TxT d := by
  induction d with
  | zero => exact tx_step 0 (fun d' h => by omega)
  | succ d ih => exact tx_step (d + 1) (fun d' h => by have e : d' = d := (by omega); subst e; exact ih)
end Go.Proofs.YtldfdfdleaemaaaDoor.Nd
