/-
  Contracts of replacePairs; the program's CleanText and IsClean.
-/
import Derived.Test.YtknilobmiandgaaDoorMqC2
import Derived.Test.YtknilobmiandgaaDoorBt
import Derived.WalkSmall
import Derived.WalkMore
import Derived.ScopeJumps
import Derived.OwnWalk
namespace Go.Proofs.YtknilobmiandgaaDoor.Mq
open Go.RowKit Pl NmPl MqPl
set_option linter.unusedSimpArgs false
set_option linter.unusedVariables false

def sliceN : Value → Nat | .slice _ n _ => n | _ => 0
theorem wp_scope_back {P : Program} {a : Act} {w : World} {Q : Exit → Act → World → Prop} {c rest : Code} (l : Nat) (J : Act → World → Prop) (μ : Act → World → Nat) (hf : findLabel c l = some (Code.seq Code.skip rest))
    (pass : ∀ a w, J a w → rest.wp P (Exit.jump l (fun a' w' => J a' w' ∧ μ a' w' < μ a w) Q) a w)
    (first : (∀ a w, J a w → rest.wp P (Exit.jump l J Q) a w) → c.wp P (Exit.jump l J Q) a w) : (Code.scope c).wp P Q a w :=
  wp_scope_jumps l J μ hf (first (fun a w h => wp_mono (pass a w h) (fun e a' w' hq => by
    cases e with
    | goto l' => exact ⟨hq.1, hq.2.1⟩
    | _ => exact hq))) (fun a w h => wp_seq (wp_skip (pass a w h)))
theorem own_open {w : World} {b : Nat} {e : TypeId} {sz : Nat} {v : Value} {n : Nat} {xs : List Value} (h : w.ownsRow b e sz v n xs) (hn : 0 < n) : ∃ g cap, v = .slice (some ⟨g, 0, none⟩) n cap ∧ n ≤ cap := by
  rcases h.2 with ⟨_, h0⟩ | ⟨g, cap, cur, hv, hg, hh, hc, _⟩
  · omega
  · exact ⟨g, cap, hv, by omega⟩
theorem own_form {w : World} {b : Nat} {e : TypeId} {sz : Nat} {v : Value} {n : Nat} {xs : List Value} (h : w.ownsRow b e sz v n xs) : ∃ A c, v = .slice A n c := by
  rcases h.2 with ⟨rfl, rfl⟩ | ⟨g, cap, cur, rfl, _⟩
  · exact ⟨none, 0, rfl⟩
  · exact ⟨_, _, rfl⟩
set_option maxHeartbeats 8000000 in
theorem pairs_i (s : ByteArray) (w : World) (ht : MarkTab w) (hs : s.size ≤ 1048576) :
    Calls Tryd.prog 17 #[.string s] w fun e w' => e = .returned (.string (ba (runR s.data.toList).reverse)) ∧ Below w.heap.size w w' := by
  obtain ⟨j0, hj, hy0, hy1, hy2⟩ := info_parts Bt.infoByte
  go_enter Tryd.func17, Tryd.ntmps17
  go_wp2_with fail
  have HT := Lib.hid ht
  clear ht
  have ho0 := World.ownsRow_lit (e := 5) (size := 1) w #[] 0 (Nat.le_refl _) (Nat.zero_le _) rfl
  have hb0 : Below w.heap.size w (w.alloc (.cells #[] 5)) := (Below.refl _ w).alloc (Nat.le_refl _) _
  go_loopw [3, 12] (fun v i wr => ∃ k : Nat, k ≤ s.size ∧ i = .int .i64 k ∧ Hid (wr.ownsRow w.heap.size 5 1 v (runR (s.data.toList.take k)).length (Lib.byteCells (runR (s.data.toList.take k)).reverse)) ∧ Hid (Below w.heap.size w wr)) (fun _ i _ => s.size - (intOf i).toNat)
  case atStart => exact ⟨0, Nat.zero_le _, rfl, Lib.hid ho0, Lib.hid hb0⟩
  case round =>
    obtain ⟨k, hk, rfl, HO, HB⟩ := hrel
    by_cases hlt : k < s.size
    · have HN : Hid (runR (s.data.toList.take (k + 1)) = pushR (runR (s.data.toList.take k)) s[k]) := Lib.hid (by rw [take_snoc s k hlt, runR_snoc])
      go_wp2_with fail
      obtain ⟨N, HNN⟩ : ∃ N, Hid (N = runR (s.data.toList.take (k + 1))) := ⟨_, Lib.hid rfl⟩
      have HN0 : Hid (pushR (runR (s.data.toList.take k)) s[k] = N) := Lib.hid (by rw [HNN.out, HN.out])
      have HL0 : Hid ((runR (s.data.toList.take k)).length ≤ k) := Lib.hid (by have := runR_len (s.data.toList.take k); rw [Pl.take_len s k (by omega)] at this; exact this)
      refine wp_scope_back 0 (fun a' w' => ∃ (st : List UInt8) (c : UInt8) (v u6 u7 u8 u15 u16 u17 u18 u19 u20 u21 u22 u23 u24 u25 u26 u27 u28 u29 u30 u31 u32 u33 u34 u35 u36 u37 u38 u39 u40 u41 : Value), a' = { tmps := #[.string s, undef, .string { data := #[] }, v, .int .i64 k, .int .u8 c.toNat, u6, u7, u8, .slice (some { block := w.heap.size, off := 0 }) 0 0, .string s, .int .i64 s.size, .int .i64 k, .bool true, .int .i64 k, u15, u16, u17, u18, u19, u20, u21, u22, u23, u24, u25, u26, u27, u28, u29, u30, u31, u32, u33, u34, u35, u36, u37, u38, u39, u40, u41, undef, undef], defers := [] } ∧ Hid (pushR st c = N) ∧ Hid (st.length ≤ k) ∧ Hid (w'.ownsRow w.heap.size 5 1 v st.length (Lib.byteCells st.reverse)) ∧ Hid (Below w.heap.size w w')) (fun a' _ => sliceN (a'.tmps.getD 3 undef)) rfl ?_ ?_
      · rintro a' w' ⟨st, c, v, u6, u7, u8, u15, u16, u17, u18, u19, u20, u21, u22, u23, u24, u25, u26, u27, u28, u29, u30, u31, u32, u33, u34, u35, u36, u37, u38, u39, u40, u41, rfl, HP, HL, HW, HX⟩
        obtain ⟨Ac, cc, rfl⟩ := own_form HW.out
        dsimp only
        have hl := HL.out
        have hbs := HX.out.size
        cases st with
        | nil =>
          have hcur := HW.out
          have HF : Hid (runR (s.data.toList.take (k + 1)) = [c]) := Lib.hid (by rw [← HNN.out, ← HP.out]; rfl)
          clear HW HP
          go_wp2_with (first | (at_builtin; refine wpList_append_own _ rfl _ _ 22 rfl w.heap.size 5 j0 (.int .u8 0) 1 1 Tryd.underlying22 hj hy0 hy1 hy2 rfl (by decide) _ _ _ rfl (hcur.alloc _) ⟨w'.heap.size, 0, none⟩ 1 1 [.int .u8 c.toNat] rfl rfl (cell_one_new _ _ _) (by simp [Value.oneCell']) (by unfold maxLen; omega) (by omega) (by simp; omega) ?_; intro v' w9 hcur' hgrow hif; clear hif) | go_in)
          have hb9 : Below w.heap.size w w9 := (HX.out.alloc hbs _).grown hgrow (by simp; omega) (fun g hg => (hcur.lt g hg).1)
          have HB9 := Lib.hid hb9
          have HC9 := Lib.hid hcur'
          clear hb9 hcur' hcur hgrow
          rename_i hK
          refine hK _ _ ?_
          go_wp2_with fail
          go_roundw
          case rel => exact ⟨k + 1, by omega, by go_num, Lib.hid (by rw [HF.out]; exact HC9.out), HB9⟩
          case measure => simp [intOf]; omega
        | cons l st =>
          obtain ⟨m, hm⟩ : ∃ m, m = st.length + 1 := ⟨_, rfl⟩
          obtain ⟨n, hn⟩ : ∃ n, n = st.length := ⟨_, rfl⟩
          have hW := HW.out
          have e1 : (l :: st).reverse = st.reverse ++ [l] := List.reverse_cons
          have e2 : (l :: st).length = m := by rw [hm]; rfl
          rw [e1, e2, ← Bt.bc_snoc] at hW
          rw [e2]
          obtain ⟨g, cap, hv, hmc0⟩ := own_open hW (by omega)
          cases hv
          have hlen : (Lib.byteCells st.reverse).length = n := by unfold Lib.byteCells; rw [List.length_map, List.length_reverse, hn]
          have hcell : w'.cell? ⟨g, n, none⟩ = some (.int .u8 l.toNat) := by
            rw [hW.cellAt n (by omega), List.getElem?_append_right (by omega), hlen, Nat.sub_self]; rfl
          have HPop : Hid (w'.ownsRow w.heap.size 5 1 (.slice (some ⟨g, 0, none⟩) n cc) n (Lib.byteCells st.reverse)) := Lib.hid (ownsRow_pop (last := [.int .u8 l.toNat]) (by rw [hlen, Nat.mul_one]) (by
            have h := hW
            rw [show m = n + 1 by omega] at h
            exact h))
          have HR := Lib.hid (rpb_i l c w' (HT.out.below HX.out))
          have hw1 : IntKind.i64.wrap ((m : Int) - 1) = (n : Int) := by rw [IntWalk.i64_in _ (by omega)]; omega
          have hnm : n < m := by omega
          have hnm2 : (n : Int) ≤ (m : Int) := by omega
          have hmc : (n : Int) ≤ (cc : Int) := by omega
          have HNl := Lib.hid hn
          have HMl := Lib.hid hm
          have HWl := Lib.hid hW
          clear HW e1 e2 hlen hn hm hW
          cases hr : rp l c with
          | none =>
            have hcur := HWl.out
            have HF : Hid (runR (s.data.toList.take (k + 1)) = c :: l :: st) := Lib.hid (by rw [← HNN.out, ← HP.out, pushR_none hr])
            have HV : Hid (rpV l c = .tuple #[.int .u8 0, .bool false]) := Lib.hid (by unfold rpV; rw [hr])
            rw [HV.out] at HR
            have hmk : m ≤ k := by have := HMl.out; simp at hl; omega
            clear hr HV HP HWl HPop
            go_wp2_with fail
            refine HR.out.mono ?_
            rintro e w7 ⟨rfl, hw7⟩
            subst hw7
            go_wp2_with (first | (at_builtin; refine wpList_append_own _ rfl _ _ 22 rfl w.heap.size 5 j0 (.int .u8 0) 1 1 Tryd.underlying22 hj hy0 hy1 hy2 rfl (by decide) _ _ _ rfl (hcur.alloc _) ⟨w'.heap.size, 0, none⟩ 1 1 [.int .u8 c.toNat] rfl rfl (cell_one_new _ _ _) (by simp [Value.oneCell']) (by unfold maxLen; omega) (by omega) (by simp; omega) ?_; intro v' w9 hcur' hgrow hif; clear hif) | go_in)
            have hb9 : Below w.heap.size w w9 := (HX.out.alloc hbs _).grown hgrow (by simp; omega) (fun g hg => (hcur.lt g hg).1)
            have HB9 := Lib.hid hb9
            have HC9 := Lib.hid hcur'
            clear hb9 hcur' hcur hgrow
            rename_i hK
            refine hK _ _ ?_
            go_wp2_with fail
            go_roundw
            case rel => exact ⟨k + 1, by omega, by go_num, Lib.hid (by rw [HF.out, List.reverse_cons, List.reverse_cons, ← Bt.bc_snoc, ← Bt.bc_snoc, show (c :: l :: st).length = m + 1 by rw [HMl.out]; rfl]; exact HC9.out), HB9⟩
            case measure => simp [intOf]; omega
          | some x =>
            have HP2 : Hid (pushR st x = N) := Lib.hid (by rw [← HP.out, pushR_some hr])
            have HV : Hid (rpV l c = .tuple #[.int .u8 x.toNat, .bool true]) := Lib.hid (by unfold rpV; rw [hr])
            rw [HV.out] at HR
            have HK2 : Hid (st.length ≤ k) := Lib.hid (by simp at hl; omega)
            clear hr HV HP HWl
            go_wp2_with fail
            refine HR.out.mono ?_
            rintro e w7 ⟨rfl, hw7⟩
            subst hw7
            go_wp2_with fail
            go_step3
            refine ⟨rfl, ⟨st, x, _, _, _, _, _, _, _, _, _, _, _, _, _, _, _, _, _, _, _, _, _, _, _, _, _, _, _, _, _, _, _, rfl, HP2, HK2, Lib.hid (by rw [← HNl.out]; exact HPop.out), HX⟩, ?_⟩
            show n < m
            exact hnm
      · intro hp
        have HP := Lib.hid hp
        clear hp
        go_wp2_with fail
        go_step3
        rename_i hK
        refine hK _ _ ?_
        exact HP.out _ _ ⟨_, s[k], _, _, _, _, _, _, _, _, _, _, _, _, _, _, _, _, _, _, _, _, _, _, _, _, _, _, _, _, _, _, _, rfl, HN0, HL0, HO, HB⟩
    · have hO := HO.out
      rw [take_all s k (by omega)] at hO
      obtain ⟨Ac, cc, hv⟩ := own_form hO
      subst hv
      have hst := Bt.own_str (l := (runR s.data.toList).reverse) (by rw [List.length_reverse]; exact hO)
      change (convert 22 9 (.slice Ac (runR s.data.toList).length cc)).run Tryd.prog wr = .ok (.string (ba (runR s.data.toList).reverse)) wr at hst
      generalize hT : ba (runR s.data.toList).reverse = T at hst
      have HTe := Lib.hid hT
      generalize (runR s.data.toList).length = q at *
      clear HO hO hT
      go_wp2_with fail
      go_ret
      exact ⟨by rw [HTe.out]; rfl, HB.out⟩
set_option maxHeartbeats 2000000 in
theorem cleans_i (s : ByteArray) (w : World) (ht : MarkTab w) (hs : s.size ≤ 1048576) :
    Calls Tryd.prog 6 #[.string s] w fun e w' => e = .returned (ctV s) ∧ Below w.heap.size w w' := by
  have HA := Lib.hid (fun r h w => isPart_i s r w hs h)
  have HP := Lib.hid (pairs_i s w ht hs)
  have HTr : Hid (∀ w, Calls Tryd.prog 16 #[.string (ba (runR s.data.toList).reverse), .string ⟨#[32]⟩] w fun e w' => e = .returned (.string (ba (clL s.data.toList))) ∧ Below w.heap.size w w') := Lib.hid (fun w => by
    have h := Tryd.strings_Trim_one (ba (runR s.data.toList).reverse) 32 (by decide) w (by rw [ba_size, List.length_reverse]; have := runR_len s.data.toList; rw [len_size] at this; omega)
    rw [toList_ba] at h
    refine h.mono ?_
    rintro e w' ⟨rfl, hw⟩
    refine ⟨rfl, ?_⟩
    rcases hw with rfl | rfl
    · exact Below.refl _ _
    · exact ⟨rfl, rfl, rfl, Nat.le_refl _, fun _ _ => rfl⟩)
  cases h1 : okX s.data.toList with
  | false =>
    have HE : Hid (ctV s = .tuple #[.string ⟨#[]⟩, .bool false]) := Lib.hid (by unfold ctV; rw [if_neg (by simp [h1])])
    have HA' := Lib.hid (HA.out false h1)
    clear h1 HA
    go_enter Tryd.func6, Tryd.ntmps6
    go_wp2_with fail
    refine (HA'.out _).mono ?_
    rintro e w' ⟨rfl, rfl⟩
    go_wp2_with fail
    go_ret2
    exact ⟨by rw [HE.out]; rfl, Below.refl _ _⟩
  | true =>
    have HE : Hid (ctV s = .tuple #[.string (ba (clL s.data.toList)), .bool true]) := Lib.hid (by unfold ctV; rw [if_pos h1])
    have HA' := Lib.hid (HA.out true h1)
    clear h1 HA
    generalize ba (runR s.data.toList).reverse = U at *
    generalize ba (clL s.data.toList) = T at *
    go_enter Tryd.func6, Tryd.ntmps6
    go_wp2_with fail
    refine (HA'.out _).mono ?_
    rintro e w' ⟨rfl, rfl⟩
    go_wp2_with fail
    refine HP.out.mono ?_
    rintro e w1 ⟨rfl, b1⟩
    go_wp2_with fail
    refine (HTr.out _).mono ?_
    rintro e w2 ⟨rfl, b2⟩
    go_wp2_with fail
    go_ret2
    exact ⟨by rw [HE.out]; rfl, b1.trans (b2.mono b1.size)⟩
set_option maxHeartbeats 2000000 in
theorem isClean_i (s : ByteArray) (w : World) (ht : MarkTab w) (hs : s.size ≤ 1048576) :
    Calls Tryd.prog 8 #[.string s] w fun e w' => e = .returned (icV s) ∧ Below w.heap.size w w' := by
  have HC := Lib.hid (cleans_i s w ht hs)
  cases h1 : okX s.data.toList with
  | false =>
    have HE : Hid (icV s = .tuple #[.bool false, .bool false]) := Lib.hid (by unfold icV; rw [if_neg (by simp [h1])])
    have HV : Hid (ctV s = .tuple #[.string ⟨#[]⟩, .bool false]) := Lib.hid (by unfold ctV; rw [if_neg (by simp [h1])])
    rw [HV.out] at HC
    clear h1
    go_enter Tryd.func8, Tryd.ntmps8
    go_wp2_with fail
    refine HC.out.mono ?_
    rintro e w1 ⟨rfl, b1⟩
    go_wp2_with fail
    go_ret2
    exact ⟨by rw [HE.out]; rfl, b1⟩
  | true =>
    have HE : Hid (icV s = .tuple #[.bool ((ba (clL s.data.toList)).toList == s.toList), .bool true]) := Lib.hid (by unfold icV; rw [if_pos h1])
    have HV : Hid (ctV s = .tuple #[.string (ba (clL s.data.toList)), .bool true]) := Lib.hid (by unfold ctV; rw [if_pos h1])
    rw [HV.out] at HC
    clear h1
    generalize ba (clL s.data.toList) = T at *
    go_enter Tryd.func8, Tryd.ntmps8
    go_wp2_with fail
    refine HC.out.mono ?_
    rintro e w1 ⟨rfl, b1⟩
    go_wp2_with fail
    go_ret2
    exact ⟨by rw [HE.out]; rfl, b1⟩
end Go.Proofs.YtknilobmiandgaaDoor.Mq
