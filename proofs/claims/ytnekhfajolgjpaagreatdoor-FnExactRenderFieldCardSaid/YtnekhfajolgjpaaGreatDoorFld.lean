/-
  The text of a list of names: contracts of namesText and l4Names.
-/
import Derived.Test.YtnekhfajolgjpaaGreatDoorNmL
import Derived.Test.YtnekhfajolgjpaaGreatDoorNmH
import Derived.Test.YtnekhfajolgjpaaGreatDoorOkS
import Derived.Test.YtnekhfajolgjpaaGreatDoorTx
namespace Go.Proofs.YtnekhfajolgjpaaGreatDoor.Fld
open Go.RowKit Pl Strs Help Name Stands SplitPl NmPl Word Part NGood Forms Nms Jn
open Cmp (ok_small)
set_option linter.unusedSimpArgs false
set_option linter.unusedVariables false

theorem inv_size {xs : List ByteArray} {p f s : ByteArray} (h : okN xs p f s = true) : (ba (invL xs p f s)).size ≤ 5000 := by
  have h1 := jn_len [p, f]
  have h2 := jn_len xs
  have h4 := ok_small h
  have e1 : ls [p, f] = [p.data.toList, f.data.toList] := rfl
  rw [e1] at h1
  simp [lens] at h1
  rw [ba_size]
  unfold invL
  rw [List.length_append, List.length_append]
  have e2 : (if 0 < xs.length ∨ s.data.toList ≠ [] then [44, 32] ++ jn (ls xs) else []).length ≤ 2 + (jn (ls xs)).length := by
    split
    · simp; omega
    · simp
  have e3 : (if s.data.toList ≠ [] then [44, 32] ++ s.data.toList else []).length ≤ 2 + s.size := by
    split
    · have hz : s.data.size = s.size := rfl
      simp; omega
    · simp
  omega
/-- the inverse form of a name -/
def ivB (x : Nm) : ByteArray := ba (invL x.xs x.p x.f x.s)
def invs (L : List Nm) : List ByteArray := L.map ivB
theorem invs_len (L : List Nm) : (invs L).length = L.length := by simp [invs]
theorem invs_size {L : List Nm} (h : ∀ x ∈ L, x.ok = true) : ∀ y ∈ invs L, y.size ≤ 5000 := by
  intro y hy
  obtain ⟨x, hx, rfl⟩ := List.mem_map.1 hy
  exact inv_size (h x hx)
/-- the names' inverse forms, with a separator between them -/
def nmsL (L : List Nm) : List UInt8 := Lib.join (ls (invs L)) [59, 32]
theorem nms_zero : nmsL [] = [] := rfl
theorem lens_bd {xs : List ByteArray} (h : ∀ y ∈ xs, y.size ≤ 5000) : lens xs ≤ 5000 * xs.length := by
  induction xs with
  | nil => simp [lens]
  | cons x r ih =>
    have h1 := ih (fun y hy => h y (List.mem_cons_of_mem _ hy))
    have h2 := h x (List.mem_cons_self ..)
    have e : lens (x :: r) = x.size + lens r := by simp [lens]
    rw [e, List.length_cons]
    omega
theorem nms_len {L : List Nm} (h : ∀ x ∈ L, x.ok = true) (hn : L.length ≤ 4) : (nmsL L).length ≤ 30000 := by
  have hs := invs_size h
  have hl := invs_len L
  unfold nmsL
  generalize invs L = xs at *
  cases xs with
  | nil => simp [ls, Lib.join]
  | cons y r =>
    have e := lens_ls r
    have e2 : lens (y :: r) = y.size + lens r := by simp [lens]
    have e3 : ls (y :: r) = y.data.toList :: ls r := rfl
    have hb := lens_bd hs
    have hll : (ls r).length = r.length := ls_len r
    simp only [List.length_cons] at hl hb
    rw [e3, Lib.join_cons, List.length_append, Lib.joinTail_length, len_size, e, hll]
    rw [e2] at hb
    simp
    omega
/-- the first k names -/
theorem nms_take {L : List Nm} {k : Nat} {x : Nm} (h : L[k]? = some x) : nmsL (L.take (k + 1)) = nmsL (L.take k) ++ (if k = 0 then [] else [59, 32]) ++ (ivB x).data.toList := by
  have e1 : ls (invs (L.take (k + 1))) = ls (invs (L.take k)) ++ [(ivB x).data.toList] := by
    rw [List.take_add_one, h]
    simp [invs, ls]
  unfold nmsL
  rw [e1]
  have hk : k < L.length := (List.getElem?_eq_some_iff.1 h).1
  have hl : (ls (invs (L.take k))).length = k := by rw [ls_len, invs_len, List.length_take]; omega
  generalize ls (invs (L.take k)) = F at *
  cases F with
  | nil =>
    obtain rfl : k = 0 := by simpa using hl.symm
    simp [Lib.join_one, Lib.join_nil]
  | cons y r =>
    have hk0 : k ≠ 0 := by simp at hl; omega
    rw [if_neg hk0, List.cons_append, Lib.join_cons, Lib.join_cons]
    simp [Lib.joinTail]
theorem joinAny (A : Option Addr) (c n : Nat) (xs : List ByteArray) (sep : ByteArray) (w : World) (h : Rdn w A n xs) (hcap : n ≤ c) (hn : n ≤ 4) (hlen : (Lib.join (ls xs) sep.data.toList).length ≤ 1048576) :
    Calls Tryz.prog 87 #[.slice A n c, .string sep] w fun e w' => e = .returned (.string (ba (Lib.join (ls xs) sep.data.toList))) ∧ Below w.heap.size w w' := by
  obtain ⟨hr, hA, hl⟩ := h
  cases xs with
  | nil =>
    obtain rfl : n = 0 := by simpa using hl.symm
    exact (Tryz.strings_Join_none A c sep w).mono fun e w' ⟨he, hw⟩ => ⟨he, hw ▸ Below.refl _ _⟩
  | cons x r =>
    have hpos : 0 < n := by rw [← hl]; simp
    obtain ⟨g, o, rfl, _⟩ := hr 0 x rfl
    have := Tryz.strings_Join g o c (x :: r) sep w (fun j y hy => by
      obtain ⟨g', o', e', hc⟩ := hr j y hy
      simp at e'
      obtain ⟨rfl, rfl⟩ := e'
      exact hc) (hA hpos _ rfl) (by rw [hl]; omega) (by rw [hl]; exact hcap) (by
        have e : (List.map (fun x => x.data.toList) (x :: r)) = ls (x :: r) := rfl
        rw [e]; omega)
    rw [hl] at this
    exact this

set_option maxRecDepth 100000 in
set_option maxHeartbeats 4000000 in
theorem l4Names (A : Option Addr) (c N : Nat) (L : List Nm) (w : World) (h : RdN0 w A L) (hn : L.length = N) (hN : N ≤ 4) (hok : ∀ x ∈ L, x.ok = true) :
    Calls Tryz.prog 51 #[.slice A N c] w fun e w' => e = .returned (.string (ba (nmsL L))) ∧ Below w.heap.size w w' := by
  have H := Lib.hid h
  have HN := Lib.hid hn
  have HK := Lib.hid hok
  clear h hn hok
  go_enter Tryz.func51, Tryz.ntmps51
  go_wp2_with fail
  go_loopw [3, 4] (fun s i wr => ∃ (k : Nat) (o : ByteArray), k ≤ N ∧ i = .int .i64 k ∧ s = .string o ∧ Hid (o = ba (nmsL (L.take k))) ∧ o.size ≤ k * 6000 ∧ Below w.heap.size w wr) (fun _ i _ => N - (intOf i).toNat)
  case atStart => exact ⟨0, _, Nat.zero_le _, rfl, rfl, Lib.hid rfl, Nat.le_refl _, Below.refl _ _⟩
  case round =>
    obtain ⟨k, o, hk, rfl, rfl, HO, hos, hb⟩ := hrel
    by_cases hlt : k < N
    · have hkx : k < L.length := by rw [HN.out]; exact hlt
      have hx? := List.getElem?_eq_getElem hkx
      obtain ⟨hr, g, oo, rfl, hg, h0, h1, h2, h3⟩ := (H.out.below hb) k L[k] hx?
      have hxk := HK.out _ (List.getElem_mem hkx)
      have HJ := Lib.hid (nms_take hx?)
      clear hx?
      generalize L[k] = x at *
      obtain ⟨A1, n1, c1, xs, p, f, s⟩ := x
      dsimp only at hr h0 h1 h2 h3
      have hok : okN xs p f s = true := hxk
      have hsm := ok_small hok
      have hz := inv_size hok
      have hn1 := hr.2.2
      have HJ2 : Hid (nmsL (L.take (k + 1)) = nmsL (L.take k) ++ (if k = 0 then [] else [59, 32]) ++ (ba (invL xs p f s)).data.toList) := HJ
      clear HJ hxk hok
      have e2 : (ByteArray.mk #[59, 32]).size = 2 := rfl
      by_cases hk0 : k = 0
      · subst hk0
        have HSh := Lib.hid (l2Inverse A1 c1 n1 xs p f s wr hr (by omega))
        clear hr hsm
        generalize ba (invL xs p f s) = y at *
        rw [if_pos rfl] at HJ2
        simp only [Nat.zero_mul, Nat.add_zero] at h0 h1 h2 h3
        have HE : Hid (o ++ y = ba (nmsL (L.take (0 + 1)))) := Lib.hid (by
          rw [HJ2.out, HO.out]
          apply ByteArray.ext
          simp [ba])
        have hzz : (o ++ y).size ≤ (0 + 1) * 6000 := by
          simp only [ByteArray.size_append]
          omega
        clear HJ2
        go_wp2_with fail
        refine HSh.out.mono ?_
        rintro e w1 ⟨rfl, b1⟩
        go_wp2_with fail
        go_roundw
        case rel => exact ⟨0 + 1, _, by omega, by go_num, rfl, Lib.hid HE.out, hzz, hb.trans (b1.mono hb.size)⟩
        case measure => simp [intOf]; omega
      · have hkp : 0 < k := by omega
        have HSh := Lib.hid (l2Inverse A1 c1 n1 xs p f s wr hr (by omega))
        clear hr hsm
        generalize ba (invL xs p f s) = y at *
        rw [if_neg hk0] at HJ2
        have HE : Hid (o ++ ⟨#[59, 32]⟩ ++ y = ba (nmsL (L.take (k + 1)))) := Lib.hid (by
          rw [HJ2.out, HO.out]
          apply ByteArray.ext
          simp [ba])
        have hzz : (o ++ ⟨#[59, 32]⟩ ++ y).size ≤ (k + 1) * 6000 := by
          simp only [ByteArray.size_append]
          omega
        clear HJ2 hk0
        go_wp2_with fail
        refine HSh.out.mono ?_
        rintro e w1 ⟨rfl, b1⟩
        go_wp2_with fail
        go_roundw
        case rel => exact ⟨k + 1, _, by omega, by go_num, rfl, Lib.hid HE.out, hzz, hb.trans (b1.mono hb.size)⟩
        case measure => simp [intOf]; omega
    · obtain rfl : k = N := by omega
      have HT : Hid (o = ba (nmsL L)) := Lib.hid (by rw [HO.out, List.take_of_length_le (by rw [HN.out]; exact Nat.le_refl _)])
      go_wp2_with fail
      go_ret
      exact ⟨by rw [← HT.out]; rfl, hb⟩

set_option maxRecDepth 100000 in
set_option maxHeartbeats 4000000 in
theorem namesText (A : Option Addr) (c N : Nat) (L : List Nm) (w : World) (h : RdN0 w A L) (hn : L.length = N) (hN : N ≤ 4) (hcp : ∀ x ∈ L, x.n ≤ x.c) (hok : ∀ x ∈ L, x.ok = true) :
    Calls Tryz.prog 67 #[.slice A N c] w fun e w' => e = .returned (.string (ba (nmsL L))) ∧ Below w.heap.size w w' := by
  have HLen := Lib.hid (nms_len hok (by omega))
  have H0 := Lib.hid h
  have HN := Lib.hid hn
  have HAll := Lib.hid hok
  have HC := Lib.hid hcp
  clear h hn hok hcp
  obtain ⟨i0, hi, hz0, hz1, hz2⟩ := info_parts Split.infoStr
  go_enter Tryz.func67, Tryz.ntmps67
  go_wp2_with fail
  go_loopw [3, 9] (fun v i wr => ∃ k : Nat, k ≤ N ∧ i = .int .i64 k ∧ wr.ownsRow w.heap.size 9 1 v k (((invs L).take k).map Value.string) ∧ Below w.heap.size w wr) (fun _ i _ => N - (intOf i).toNat)
  case atStart => exact ⟨0, Nat.zero_le _, rfl, World.ownsRow_lit w #[] 0 (Nat.le_refl _) (Nat.zero_le _) rfl, (Below.refl _ _).alloc (Nat.le_refl _) _⟩
  case round =>
    obtain ⟨k, hk, rfl, hown, hbe⟩ := hrel
    by_cases hlt : k < N
    · have hkx : k < L.length := by rw [HN.out]; exact hlt
      have hx? := List.getElem?_eq_getElem hkx
      obtain ⟨hr, g, o, rfl, hg, h0, h1, h2, h3⟩ := (H0.out.below hbe) k L[k] hx?
      have hxk := HAll.out _ (List.getElem_mem hkx)
      have hcx := HC.out _ (List.getElem_mem hkx)
      have HFk : Hid ((invs L).take (k + 1) = (invs L).take k ++ [ivB L[k]]) := Lib.hid (by
        rw [List.take_add_one]
        congr 1
        simp [invs, hx?])
      clear hx?
      generalize L[k] = x at *
      obtain ⟨A1, n1, c1, xs, p, f, s⟩ := x
      dsimp only at hr h0 h1 h2 h3 hcx
      have hok : okN xs p f s = true := hxk
      have hsm := ok_small hok
      have hn1 := hr.2.2
      have b5 := (Below.refl _ wr).alloc (Nat.le_refl _) (.cells #[.slice A1 n1 c1, .string p, .string f, .string s] 60)
      have HSh := Lib.hid (implInverse A1 c1 n1 xs p f s _ (hr.below b5) hcx (okN_nes hok) (by omega))
      have HFk2 : Hid ((invs L).take (k + 1) = (invs L).take k ++ [ba (invL xs p f s)]) := HFk
      clear HFk hxk hok hsm hr hcx
      generalize ba (invL xs p f s) = y at *
      go_wp2_with fail
      refine HSh.out.mono ?_
      rintro e w2 ⟨rfl, b2⟩
      have b25 := b5.trans (b2.mono b5.size)
      have hown2 := own_kept hown b25
      have hbe2 := hbe.trans (b25.mono hbe.size)
      have hbs2 := hbe2.size
      clear hown b2 b5 HSh
      go_wp2_with (first
        | (at_builtin; refine wpList_append_own _ rfl _ _ 50 rfl w.heap.size 9 i0 (.string ByteArray.empty) 1 16 Tryz.underlying50 hi hz0 hz1 hz2 rfl (by decide) _ _ _ rfl (hown2.alloc _) ⟨w2.heap.size, 0, none⟩ 1 1 [.string y] rfl rfl (cell_one_new _ _ _) (by simp [Value.oneCell']) (by unfold maxLen; omega) (by omega) (by simp; omega) ?_; intro v' w3 hown' hgrow _)
        | go_in)
      go_roundw
      case rel =>
        refine ⟨k + 1, by omega, by go_num, ?_, (hbe2.alloc hbe2.size _).grown hgrow (by simp; have := hbe2.size; omega) (fun g hg => (hown2.lt g hg).1)⟩
        rw [HFk2.out]
        simpa using hown'
      case measure => simp [intOf]; omega
    · obtain rfl : k = N := by omega
      have HT : Hid ((invs L).take k = invs L) := Lib.hid (List.take_of_length_le (by rw [invs_len, HN.out]; exact Nat.le_refl _))
      rw [HT.out] at hown
      obtain ⟨A1, c1, rfl, _, _, _⟩ := own_rds hown
      have hcap := own_cap hown
      have HJ := Lib.hid (joinAny A1 c1 _ (invs L) ⟨#[59, 32]⟩ wr (Rdn.own hown) hcap hN (by have := HLen.out; unfold nmsL at this; show (Lib.join (ls (invs L)) [59, 32]).length ≤ _; omega))
      clear hown hcap
      have HV : Hid (ba (Lib.join (ls (invs L)) (ByteArray.mk #[59, 32]).data.toList) = ba (nmsL L)) := Lib.hid rfl
      rw [HV.out] at HJ
      clear HV
      obtain ⟨y, HY⟩ : ∃ y, Hid (ba (nmsL L) = y) := ⟨_, Lib.hid rfl⟩
      rw [HY.out] at HJ
      go_wp2_with fail
      refine HJ.out.mono ?_
      rintro e w2 ⟨rfl, b2⟩
      have k2 := hbe.trans (b2.mono hbe.size)
      go_wp2_with fail
      go_ret
      exact ⟨by rw [HY.out]; rfl, k2⟩
end Go.Proofs.YtnekhfajolgjpaaGreatDoor.Fld
