/-
  FirstCited of both: slices.Grow and slices.Concat at strings; areCitations; the functions.
-/
import Derived.Test.YtioajkkkncjndaaFc
namespace Go.Proofs.Ytioajkkkncjndaa.Fc
open Go.RowKit Pl Stands SplitPl NmPl Strs Help Nms Kpz Sss Ck Kt
set_option linter.unusedSimpArgs false
set_option linter.unusedVariables false

set_option maxRecDepth 100000 in
set_option maxHeartbeats 2000000 in
theorem grow_nil (n : Nat) (w : World) (hn : n ≤ 2097152) : Calls Try.prog 29 #[.slice none 0 0, .int .i64 n] w (RowP [] w) := by
  obtain ⟨i0, hi, hz0, hz1, hz2⟩ := info_parts infoStr
  by_cases h0 : n = 0
  · subst h0
    go_enter Try.func29, Try.ntmps29
    go_wp2_with fail
    go_ret
    exact ⟨_, rfl, World.ownsRow_nil _ _ _ _, kre _⟩
  · have h1 : 0 < n := by omega
    have hpos : (0 : Int) < (n : Int) := by omega
    have hrz : ∀ ty, (Builtin.append_ #[24, 3] ty #[.slice none 0 0, .int .i64 (n : Int)]).run Try.prog w =
        .ok (.slice (some ⟨w.heap.size, 0, none⟩) n (grownCap w n 0 9)) (w.drew.alloc (.cells (Builtin.zeroCells (Value.string ByteArray.empty).cells n ++ Builtin.zeroCells (Value.string ByteArray.empty).cells (grownCap w n 0 9 - n)) 9)) := fun ty =>
      Lib.run_append_nil_zeros w 24 3 ty 9 i0 _ .i64 .i64 Try.underlying24 Try.underlying3 hi hz0 n h1 (by omega) (by omega) (by rw [hz2]; omega)
    obtain ⟨G, hG⟩ : ∃ G, grownCap w n 0 9 = G := ⟨_, rfl⟩
    have hGn : n ≤ G := by rw [← hG]; exact grownCap_ge w _ _ _
    have hGm : G ≤ maxLen := by rw [← hG]; exact grownCap_le_maxLen w n 0 9 (by unfold maxLen; omega)
    obtain ⟨ROW, hROW⟩ : ∃ ROW : Array Value, Builtin.zeroCells (Value.string ByteArray.empty).cells n ++ Builtin.zeroCells (Value.string ByteArray.empty).cells (G - n) = ROW := ⟨_, rfl⟩
    have hRl : ROW.size = G * 1 := by
      rw [← hROW]
      simp only [Array.size_append, Builtin.zeroCells, Value.cells, Array.size_map, Array.size_range]
      simp
      omega
    rw [hG, hROW] at hrz
    have HO : Hid ((w.drew.alloc (.cells ROW 9)).ownsRow w.heap.size 9 1 (.slice (some ⟨w.heap.size, 0, none⟩) 0 G) 0 []) := Lib.hid
      ⟨by simp, .inr ⟨w.heap.size, G, ROW, rfl, Nat.le_refl _, heap_alloc_new w.drew _, Nat.zero_le _, hGm, hRl, by simp⟩⟩
    have hb : Kp w (w.drew.alloc (.cells ROW 9)) := kal (kdr (kre _)) _
    clear hG hROW hRl hGm
    go_enter Try.func29, Try.ntmps29
    go_wp2_with (at_builtin; refine Lib.wpList_append_run _ rfl _ _ _ _ rfl _ _ rfl rfl _ _ (hrz _) ?_)
    go_ret
    first | exact ⟨_, rfl, HO.out, hb⟩ | exact ⟨_, rfl, own_kp HO.out (kdr (kre _)), kdr hb⟩

set_option maxRecDepth 100000 in
set_option maxHeartbeats 4000000 in
theorem concat_i (b0 b1 : Nat) (A : Option Addr) (m c : Nat) (C : List (List ByteArray)) (w : World) (h : RdC b0 b1 w A C) (hm : C.length = m) (hs : C.flatten.length ≤ 2097152) (hm2 : m ≤ 1048576) :
    Calls Try.prog 21 #[.slice A m c] w (RowP C.flatten w) := by
  obtain ⟨i0, hi, hz0, hz1, hz2⟩ := info_parts infoStr
  have H := Lib.hid h
  have HM := Lib.hid hm
  have HS := Lib.hid hs
  have HLe := Lib.hid (fun k => flat_le C k)
  clear h hm hs
  go_enter Try.func21, Try.ntmps21
  go_wp2_with fail
  go_loop [3, 11] (fun z i => ∃ k : Nat, k ≤ m ∧ i = .int .i64 k ∧ ∃ t : Nat, t ≤ 2097152 ∧ Hid ((C.take k).flatten.length = t) ∧ z = .int .i64 t) (fun _ i => m - (intOf i).toNat)
  case atStart => exact ⟨0, Nat.zero_le _, rfl, 0, Nat.zero_le _, Lib.hid rfl, rfl⟩
  case round =>
    obtain ⟨k, hk, rfl, t, ht, HT, rfl⟩ := hrel
    by_cases hlt : k < m
    · obtain ⟨x, hx⟩ : ∃ x, C[k]? = some x := ⟨_, List.getElem?_eq_getElem (by rw [HM.out]; exact hlt)⟩
      obtain ⟨g, o, Ai, ci, rfl, -, h2, -, -, -⟩ := H.out k x hx
      have HT2 := Lib.hid (flat_at hx)
      have hle := HLe.out (k + 1)
      rw [HT2.out, List.length_append, HT.out] at hle
      have hs2 := HS.out
      have HT3 : Hid ((C.take (k + 1)).flatten.length = t + x.length) := Lib.hid (by rw [HT2.out, List.length_append, HT.out])
      have hle2 : t + x.length ≤ 2097152 := by omega
      clear hx HT2 hle hs2
      generalize x.length = lx at *
      go_wp2_with fail
      go_round
      case rel => exact ⟨k + 1, by omega, by go_num, t + lx, hle2, HT3, by go_num⟩
      case measure => (simp [intOf] <;> omega)
    · obtain rfl : k = m := by omega
      have HTt : Hid (C.flatten.length = t) := Lib.hid (by rw [← HT.out, List.take_of_length_le (by rw [HM.out]; exact Nat.le_refl _)])
      go_wp2_with (first | (go_at_call 29; refine (grow_nil t w ht).mono ?_; rintro e w1 ⟨v1, rfl, o1, b1⟩))
      have HO1 := Lib.hid o1
      clear o1
      go_loopw [6, 27] (fun v i wr => ∃ j : Nat, j ≤ k ∧ i = .int .i64 j ∧ Hid (wr.ownsRow w.heap.size 9 1 v (C.take j).flatten.length ((C.take j).flatten.map Value.string)) ∧ Kp w wr) (fun _ i _ => k - (intOf i).toNat)
      case atStart => exact ⟨0, Nat.zero_le _, rfl, HO1, b1⟩
      case round =>
        obtain ⟨j, hj, rfl, HO, hb⟩ := hrel
        by_cases hlj : j < k
        · obtain ⟨x, hx⟩ : ∃ x, C[j]? = some x := ⟨_, List.getElem?_eq_getElem (by rw [HM.out]; exact hlj)⟩
          obtain ⟨g, o, Ai, ci, rfl, -, h2, h3, h4, h5⟩ := (H.out.kp hb) j x hx
          have HT2 := Lib.hid (flat_at hx)
          have hle := HLe.out (j + 1)
          rw [HT2.out, List.length_append] at hle
          have hs2 := HS.out
          have hsw := ksz hb
          have hbd : (C.take j).flatten.length + x.length ≤ 2097152 := by omega
          cases Ai with
          | some a =>
            have HC := Lib.hid (show ∀ i u, (x.map Value.string)[i]? = some u → wr.cell? (a.add i) = some u from fun i u hu => by
              rw [List.getElem?_map] at hu
              obtain ⟨t9, ht9, rfl⟩ := Option.map_eq_some_iff.1 hu
              obtain ⟨g9, o9, e9, hc9⟩ := h3 i t9 ht9
              cases e9
              rw [Go.WideShapes.add_plain]; exact hc9)
            have HLx := Lib.hid (show (x.map Value.string).length = x.length by simp)
            have HPc := Lib.hid (show ∀ v ∈ x.map Value.string, v.oneCell' = true from fun v hv => by obtain ⟨_, _, rfl⟩ := List.mem_map.1 hv; rfl)
            have HT3 : Hid ((C.take (j + 1)).flatten.length = (C.take j).flatten.length + x.length) := Lib.hid (by rw [HT2.out, List.length_append])
            have HT4 : Hid ((C.take (j + 1)).flatten.map Value.string = (C.take j).flatten.map Value.string ++ x.map Value.string) := Lib.hid (by rw [HT2.out, List.map_append])
            clear hx hle hs2 h4 h3 h5 HT2
            generalize x.map Value.string = xc at *
            generalize x.length = lx at *
            go_wp2_with (at_builtin; refine wpList_append_own _ rfl _ _ 24 rfl w.heap.size 9 i0 _ 1 16 Try.underlying24 hi hz0 hz1 hz2 rfl (by decide) _ _ _ rfl HO.out a lx ci xc rfl (by rw [HLx.out, Nat.mul_one]) HC.out HPc.out (by unfold maxLen; omega) (by omega) hsw ?_; intro v8 w8 hown hgrow hne)
            have HO8 : Hid (w8.ownsRow w.heap.size 9 1 v8 (C.take (j + 1)).flatten.length ((C.take (j + 1)).flatten.map Value.string)) := Lib.hid (by rw [HT3.out, HT4.out]; exact hown)
            have hb8 : Kp w w8 := below_grown hb hgrow hsw (fun q hq => (HO.out.lt q hq).1)
            clear hown hgrow hne
            go_roundw
            case rel => exact ⟨j + 1, by omega, by go_num, HO8, hb8⟩
            case measure => (simp [intOf] <;> omega)
          | none =>
            have hL : x = [] := by
              cases x with
              | nil => rfl
              | cons t9 r9 => obtain ⟨g9, o9, e9, _⟩ := h3 0 t9 rfl; cases e9
            subst hL
            obtain rfl := h5 rfl
            have HT4 : Hid ((C.take (j + 1)).flatten = (C.take j).flatten) := Lib.hid (by rw [HT2.out]; exact List.append_nil _)
            obtain ⟨A8, c8, rfl, _, _, _⟩ := own_rds HO.out
            have hcap := own_cap HO.out
            have HO8 : Hid (wr.ownsRow w.heap.size 9 1 (.slice A8 (C.take j).flatten.length c8) (C.take (j + 1)).flatten.length ((C.take (j + 1)).flatten.map Value.string)) := Lib.hid (by rw [HT4.out]; exact HO.out)
            obtain ⟨n8, hn8⟩ : ∃ n8, (C.take j).flatten.length = n8 := ⟨_, rfl⟩
            rw [hn8] at hcap HO8 ⊢
            have hfm : (A8 = none ∧ n8 = 0 ∧ c8 = 0) ∨ ∃ g8, A8 = some ⟨g8, 0, none⟩ := by
              rcases HO8.out.2 with ⟨h0, _⟩ | ⟨g8, cap, cur, h0, _⟩
              · cases h0; exact .inl ⟨rfl, rfl, rfl⟩
              · cases h0; exact .inr ⟨g8, rfl⟩
            clear hx hle hs2 h3 h4 h5 HT2 hn8 HO
            rcases hfm with ⟨rfl, rfl, rfl⟩ | ⟨g8, rfl⟩
            · go_wp2_with fail
              go_roundw
              case rel => exact ⟨j + 1, by omega, by go_num, HO8, hb⟩
              case measure => (simp [intOf] <;> omega)
            · go_wp2_with fail
              go_roundw
              case rel => exact ⟨j + 1, by omega, by go_num, HO8, hb⟩
              case measure => (simp [intOf] <;> omega)
        · obtain rfl : j = k := by omega
          have HE : Hid (C.take j = C) := Lib.hid (by rw [List.take_of_length_le (by rw [HM.out]; exact Nat.le_refl _)])
          go_wp2_with fail
          go_ret
          exact ⟨_, rfl, by rw [HE.out] at HO; exact HO.out, hb⟩

set_option maxHeartbeats 2000000 in
theorem areCit_i (A : Option Addr) (c n : Nat) (C : List (List ByteArray)) (r : Bool) (w : World) (hr : RdA w A C) (hn : C.length = n) (hm : n ≤ 1048576) (hx : ∀ xs ∈ C, xs.length ≤ 1048576 ∧ ∀ x ∈ xs, x.size ≤ 1048576) (h : cOk C = r) :
    Calls Try.prog 20 #[.slice A n c] w fun e w' => e = .returned (.bool r) ∧ w = w' := by
  have HR := Lib.hid hr
  have HN := Lib.hid hn
  have HX := Lib.hid hx
  have HV := Lib.hid h
  clear hr hn hx h
  by_cases hbig : 20 < n
  · have HE : Hid (r = false) := Lib.hid (by rw [← HV.out]; unfold cOk; rw [HN.out, decide_eq_false (by omega)]; rfl)
    have hg : decide ((20 : Int) < (n : Int)) = true := by simp; omega
    go_enter Try.func20, Try.ntmps20
    go_wp2_with fail
    go_ret
    exact ⟨by rw [HE.out]; rfl, rfl⟩
  · have HE : Hid (r = C.all (aks 6)) := Lib.hid (by rw [← HV.out]; unfold cOk; rw [HN.out, decide_eq_true (by omega)]; rfl)
    have hg : decide ((20 : Int) < (n : Int)) = false := by simp; omega
    clear HV
    go_enter Try.func20, Try.ntmps20
    go_wp2_with fail
    go_loop [10] (fun i => ∃ k : Nat, k ≤ n ∧ i = .int .i64 k ∧ Hid ((C.take k).all (aks 6) = true)) (fun i => n - (intOf i).toNat)
    case atStart => exact ⟨0, Nat.zero_le _, rfl, Lib.hid rfl⟩
    case round =>
      obtain ⟨k, hk, rfl, HO⟩ := hrel
      by_cases hlt : k < n
      · obtain ⟨x, hx⟩ : ∃ x, C[k]? = some x := ⟨_, List.getElem?_eq_getElem (by rw [HN.out]; exact hlt)⟩
        obtain ⟨g, o, Ai, ci, rfl, hc0, r0, a0⟩ := HR.out k x hx
        obtain ⟨hxl, hxz⟩ := HX.out x (List.mem_of_getElem? hx)
        have HO1 := Lib.hid (allC_at hx)
        have HNo := Lib.hid (fun h => allC_no hx h)
        have HP := Lib.hid (fun r h => areKeys_i Ai ci x.length 6 x r w r0 rfl hxl (by omega) hxz h)
        clear hx r0 a0 hxz
        cases hok : aks 6 x with
        | false =>
          have HP1 := Lib.hid (HP.out false hok)
          have HE2 : Hid (r = false) := Lib.hid (by rw [HE.out]; exact HNo.out hok)
          clear hok HP
          generalize x.length = lx at *
          go_wp2_with fail
          refine HP1.out.mono ?_
          rintro e w' ⟨rfl, rfl⟩
          go_wp2_with fail
          go_ret
          exact ⟨by rw [HE2.out]; rfl, rfl⟩
        | true =>
          have HP1 := Lib.hid (HP.out true hok)
          have HO2 : Hid ((C.take (k + 1)).all (aks 6) = true) := Lib.hid (by rw [HO1.out, HO.out, Bool.true_and]; exact hok)
          clear hok HP
          generalize x.length = lx at *
          go_wp2_with fail
          refine HP1.out.mono ?_
          rintro e w' ⟨rfl, rfl⟩
          go_wp2_with fail
          go_round
          case rel => exact ⟨k + 1, by omega, by go_num, HO2⟩
          case measure => simp [intOf]; omega
      · have HE2 : Hid (r = true) := Lib.hid (by rw [HE.out]; have := HO.out; rw [List.take_of_length_le (by rw [HN.out]; omega)] at this; exact this)
        go_wp2_with fail
        go_ret
        exact ⟨by rw [HE2.out]; rfl, rfl⟩
/-- what FirstCited answers: the list -/
def fcX (C : List (List ByteArray)) : List ByteArray := if cOk C then fcL C.flatten else []
theorem fcX_no {C : List (List ByteArray)} (h : cOk C = false) : fcX C = [] := by unfold fcX; rw [h]; rfl
theorem fcX_yes {C : List (List ByteArray)} (h : cOk C = true) : fcX C = fcL C.flatten := by unfold fcX; rw [h]; rfl
theorem flat_bound {C : List (List ByteArray)} (h : cOk C = true) : C.flatten.length ≤ 120 := by
  unfold cOk at h
  simp only [Bool.and_eq_true, decide_eq_true_eq] at h
  have := cOk_flat h.2
  omega
theorem fcX_len (C : List (List ByteArray)) : (fcX C).length ≤ 120 := by
  cases h : cOk C with
  | false => rw [fcX_no h]; simp
  | true => rw [fcX_yes h]; exact Nat.le_trans (fcL_len _) (flat_bound h)
def FcP (C : List (List ByteArray)) (w : World) (e : Ending) (w' : World) : Prop := ∃ v, e = .returned (.tuple #[v, .bool (cOk C)]) ∧ w'.ownsRow w.heap.size 9 1 v (fcX C).length ((fcX C).map Value.string) ∧ Kp w w'
set_option maxHeartbeats 2000000 in
theorem cited_s (A : Option Addr) (c n : Nat) (C : List (List ByteArray)) (w : World) (h : RdA w A C) (hn : C.length = n) (hm : n ≤ 1048576) (hx : ∀ xs ∈ C, xs.length ≤ 1048576 ∧ ∀ x ∈ xs, x.size ≤ 1048576) :
    Calls Try.prog 6 #[.slice A n c] w (FcP C w) := by
  have H := Lib.hid h
  have HN := Lib.hid hn
  have HX := Lib.hid hx
  clear h hn hx
  by_cases hbig : 20 < n
  · have HE : Hid (cOk C = false) := Lib.hid (by unfold cOk; rw [HN.out, decide_eq_false (by omega)]; rfl)
    have hg : decide ((20 : Int) < (n : Int)) = true := by simp; omega
    go_enter Try.func6, Try.ntmps6
    go_wp2_with fail
    go_ret2
    exact ⟨_, by rw [HE.out]; rfl, by rw [fcX_no HE.out]; exact World.ownsRow_lit w #[] 0 (Nat.le_refl _) (Nat.zero_le _) rfl, kal (kre _) _⟩
  · have hg : decide ((20 : Int) < (n : Int)) = false := by simp; omega
    have HV : Hid (cOk C = C.all (aks 6)) := Lib.hid (by unfold cOk; rw [HN.out, decide_eq_true (by omega)]; rfl)
    go_enter Try.func6, Try.ntmps6
    go_wp2_with fail
    go_loop [4] (fun i => ∃ k : Nat, k ≤ n ∧ i = .int .i64 k ∧ Hid ((C.take k).all (aks 6) = true)) (fun i => n - (intOf i).toNat)
    case atStart => exact ⟨0, Nat.zero_le _, rfl, Lib.hid rfl⟩
    case round =>
      obtain ⟨k, hk, rfl, HO⟩ := hrel
      by_cases hlt : k < n
      · obtain ⟨x, hx⟩ : ∃ x, C[k]? = some x := ⟨_, List.getElem?_eq_getElem (by rw [HN.out]; exact hlt)⟩
        obtain ⟨g, o, Ai, ci, rfl, hc0, r0, a0⟩ := H.out k x hx
        obtain ⟨hxl, hxz⟩ := HX.out x (List.mem_of_getElem? hx)
        have HO1 := Lib.hid (allC_at hx)
        have HNo := Lib.hid (fun h => allC_no hx h)
        have HP := Lib.hid (fun r h => l13Keys_s Ai ci x.length 6 x r w r0 rfl hxl (by omega) hxz h)
        clear hx r0 a0 hxz
        cases hok : aks 6 x with
        | false =>
          have HP1 := Lib.hid (HP.out false hok)
          have HE2 : Hid (cOk C = false) := Lib.hid (by rw [HV.out]; exact HNo.out hok)
          clear hok HP
          generalize x.length = lx at *
          go_wp2_with fail
          refine HP1.out.mono ?_
          rintro e w' ⟨rfl, rfl⟩
          go_wp2_with fail
          go_ret2
          exact ⟨_, by rw [HE2.out]; rfl, by rw [fcX_no HE2.out]; exact World.ownsRow_lit w #[] 0 (Nat.le_refl _) (Nat.zero_le _) rfl, kal (kre _) _⟩
        | true =>
          have HP1 := Lib.hid (HP.out true hok)
          have HO2 : Hid ((C.take (k + 1)).all (aks 6) = true) := Lib.hid (by rw [HO1.out, HO.out, Bool.true_and]; exact hok)
          clear hok HP
          generalize x.length = lx at *
          go_wp2_with fail
          refine HP1.out.mono ?_
          rintro e w' ⟨rfl, rfl⟩
          go_wp2_with fail
          go_round
          case rel => exact ⟨k + 1, by omega, by go_num, HO2⟩
          case measure => simp [intOf]; omega
      · have HE2 : Hid (cOk C = true) := Lib.hid (by rw [HV.out]; have := HO.out; rw [List.take_of_length_le (by rw [HN.out]; omega)] at this; exact this)
        have HF := Lib.hid (first_s A c n C w H.out HN.out hm (by have := flat_bound HE2.out; omega))
        go_wp2_with fail
        refine HF.out.mono ?_
        rintro e w1 ⟨v, rfl, o1, b1⟩
        go_wp2_with fail
        go_ret2
        exact ⟨_, by rw [HE2.out]; rfl, by rw [fcX_yes HE2.out]; exact o1, b1⟩
set_option maxHeartbeats 4000000 in
theorem cited_i (b0 b1 : Nat) (A : Option Addr) (c n : Nat) (C : List (List ByteArray)) (w : World) (h : RdC b0 b1 w A C) (hn : C.length = n) (hm : n ≤ 1048576) (hx : ∀ xs ∈ C, xs.length ≤ 1048576 ∧ ∀ x ∈ xs, x.size ≤ 1048576) :
    Calls Try.prog 8 #[.slice A n c] w (FcP C w) := by
  obtain ⟨i0, hi, hz0, hz1, hz2⟩ := info_parts infoStr
  have HA := Lib.hid (fun r hr => areCit_i A c n C r w h.rda hn hm hx hr)
  have HC := Lib.hid (fun hs w' (hk : Kp w w') => concat_i b0 b1 A n c C w' (h.kp hk) hn hs hm)
  clear h hn hx
  cases hok : cOk C with
  | false =>
    have HA1 := Lib.hid (HA.out false hok)
    have HE := Lib.hid hok
    clear hok HA HC
    go_enter Try.func8, Try.ntmps8
    go_wp2_with fail
    refine HA1.out.mono ?_
    rintro e w' ⟨rfl, rfl⟩
    go_wp2_with fail
    go_ret2
    exact ⟨_, by rw [HE.out]; rfl, by rw [fcX_no HE.out]; exact World.ownsRow_lit w #[] 0 (Nat.le_refl _) (Nat.zero_le _) rfl, kal (kre _) _⟩
  | true =>
    have HA1 := Lib.hid (HA.out true hok)
    have HE := Lib.hid hok
    have HB := Lib.hid (flat_bound hok)
    have HC1 := Lib.hid (HC.out (by have := HB.out; omega))
    have HXe := Lib.hid (fcX_yes hok)
    clear hok HA HC
    generalize C.flatten = F at *
    have hw1 : Kp w (w.alloc (.cells #[] 9)) := kal (kre _) _
    have HO0 : Hid ((w.alloc (.cells #[] 9)).ownsRow w.heap.size 9 1 (.slice (some ⟨w.heap.size, 0, none⟩) 0 0) 0 []) := Lib.hid (World.ownsRow_lit w #[] 0 (Nat.le_refl _) (Nat.zero_le _) rfl)
    go_enter Try.func8, Try.ntmps8
    go_wp2_with fail
    refine HA1.out.mono ?_
    rintro e w' ⟨rfl, rfl⟩
    go_wp2_with fail
    refine (HC1.out _ hw1).mono ?_
    rintro e w2 ⟨v2, rfl, o2, b2⟩
    obtain ⟨A2, c2, rfl, _, r2, a2⟩ := own_rds o2
    have HR2 := Lib.hid r2
    have HO1 := Lib.hid (own_kp HO0.out b2)
    have HK2 := Lib.hid (ktr hw1 b2)
    have ha2 : 0 < F.length → ∀ a, A2 = some a → a.block < w2.heap.size := fun _ => a2
    have hap : ∀ a, A2 = some a → w.heap.size < a.block := fun a e => by
      subst e
      have := (o2.lt a.block rfl).1
      simp at this
      omega
    have HAp := Lib.hid hap
    have HA2 := Lib.hid a2
    clear o2 r2 a2 b2 HO0 hw1 HC1 ha2 hap
    obtain ⟨lf, hlf⟩ : ∃ lf, F.length = lf := ⟨_, rfl⟩
    have HLf := Lib.hid hlf
    rw [hlf]
    clear hlf
    have hlf : lf ≤ 120 := by rw [← HLf.out]; exact HB.out
    go_wp2_with fail
    go_loopw [4, 15] (fun v i wr => ∃ k : Nat, k ≤ lf ∧ i = .int .i64 k ∧ Hid (wr.ownsRow w.heap.size 9 1 v (fcL (F.take k)).length ((fcL (F.take k)).map Value.string)) ∧ Hid (RdS wr A2 F) ∧ Hid (∀ a, A2 = some a → v.ownBlock ≠ some a.block ∧ a.block < wr.heap.size) ∧ Kp w wr) (fun _ i _ => lf - (intOf i).toNat)
    case atStart => exact ⟨0, Nat.zero_le _, rfl, Lib.hid (by simpa [fcL] using HO1.out), HR2, Lib.hid (fun a e => ⟨fun h => by
        have h1 := HAp.out a e
        have h2 : w.heap.size = a.block := by simpa [Value.ownBlock] using h
        omega, HA2.out a e⟩), HK2.out⟩
    case round =>
      obtain ⟨k, hk, rfl, HO, HR, HAv, hb⟩ := hrel
      have hsw := ksz hb
      by_cases hlk : k < lf
      · obtain ⟨t, ht⟩ : ∃ t, F[k]? = some t := ⟨_, List.getElem?_eq_getElem (by rw [HLf.out]; exact hlk)⟩
        obtain ⟨g', o', rfl, d0⟩ := HR.out k t ht
        have HS := Lib.hid (fcL_at ht [])
        rw [List.nil_append, List.nil_append] at HS
        have hol := fcL_len (F.take k)
        have hol3 : (fcL (F.take k)).length ≤ 120 := by rw [List.length_take] at hol; omega
        obtain ⟨Av, cv, rfl, -, rv, -⟩ := own_rds HO.out
        have hcap := own_cap HO.out
        clear hol ht
        generalize fcL (F.take k) = U at *
        by_cases hmem : 0 < plc t U 0
        · have HH := Lib.hid (contains_i Av cv U.length U t true wr rv rfl (by omega) (decide_eq_true hmem))
          have HE2 : Hid (fcL (F.take (k + 1)) = U) := Lib.hid (by rw [HS.out]; unfold fcS; rw [if_pos hmem])
          clear hmem HS rv
          generalize hU : U.length = lu at *
          go_wp2_with fail
          refine HH.out.mono ?_
          rintro e w' ⟨rfl, rfl⟩
          go_wp2_with fail
          go_roundw
          case rel => exact ⟨k + 1, by omega, by go_num, Lib.hid (by rw [HE2.out, hU]; exact HO.out), HR, HAv, hb⟩
          case measure => (simp [intOf] <;> omega)
        · have HH := Lib.hid (contains_i Av cv U.length U t false wr rv rfl (by omega) (decide_eq_false hmem))
          have HE2 : Hid (fcL (F.take (k + 1)) = U ++ [t]) := Lib.hid (by rw [HS.out]; unfold fcS; rw [if_neg hmem])
          clear hmem HS rv
          go_wp2_with fail
          refine HH.out.mono ?_
          rintro e w' ⟨rfl, rfl⟩
          go_wp2_with (first | (at_builtin; refine wpList_append_own_at _ rfl _ _ 24 rfl w.heap.size 9 i0 (.string ByteArray.empty) 1 16 Try.underlying24 hi hz0 hz1 hz2 rfl (by decide) _ _ _ rfl (HO.out.alloc _) ⟨wr.heap.size, 0, none⟩ 1 1 [.string t] rfl rfl (cell_one_new _ _ _) (by simp [Value.oneCell']) (by unfold maxLen; omega) (by omega) (by simp; omega) ?_; intro v' w1 hown' hgrow _ hat))
          have HO3 : Hid (w1.ownsRow w.heap.size 9 1 v' (fcL (F.take (k + 1))).length ((fcL (F.take (k + 1))).map Value.string)) := Lib.hid (by rw [HE2.out]; exact row_add hown')
          have hb3 : Kp w w1 := (hb.alloc hsw _).grown hgrow (by simp; omega) (fun g hg => (HO.out.lt g hg).1)
          have HR3 : Hid (RdS w1 (some ⟨g', o', none⟩) F) := Lib.hid (HR.out.of fun hp a e => by
            have h1 := HAv.out a e
            have h2 : (wr.alloc (.cells #[.string t] 9)).heap[a.block]? = wr.heap[a.block]? := ((kal (kre wr) _).block a.block h1.2)
            exact (hgrow.block a.block (by simp; omega) (fun e9 => h1.1 e9.symm)).trans h2)
          have HAv3 : Hid (∀ a, (some ⟨g', o', none⟩ : Option Addr) = some a → v'.ownBlock ≠ some a.block ∧ a.block < w1.heap.size) := Lib.hid (fun a e => by
            have h1 := HAv.out a e
            have h3 := hgrow.size
            simp at h3
            refine ⟨fun h => ?_, by omega⟩
            rcases hat with h4 | h4
            · exact h1.1 (h4.symm.trans h)
            · rw [h4] at h
              simp at h
              omega)
          clear hown' hgrow hat
          go_roundw
          case rel => exact ⟨k + 1, by omega, by go_num, HO3, HR3, HAv3, hb3⟩
          case measure => (simp [intOf] <;> omega)
      · have HT : Hid (F.take k = F) := Lib.hid (by rw [List.take_of_length_le (by rw [HLf.out]; omega)])
        rw [HT.out] at HO
        go_wp2_with fail
        go_ret2
        exact ⟨_, by rw [HE.out]; rfl, by rw [HXe.out]; exact HO.out, hb⟩
end Go.Proofs.Ytioajkkkncjndaa.Fc
