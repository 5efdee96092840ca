/-
  Several texts of one claim in one file: Ct, Ct2, Ct3, Ct4, Ct5, Ct6.
-/
import Derived.Test.YteccmlpibbchbaaGreatDoorGJm
import Derived.Test.YteccmlpibbchbaaGreatDoorNfC
import Derived.Test.YteccmlpibbchbaaGreatDoorGLv
import Derived.Test.YteccmlpibbchbaaGreatDoorGFr
import Derived.Test.YteccmlpibbchbaaGreatDoorGLd
import Derived.Test.YteccmlpibbchbaaGreatDoorGNu
import Derived.Test.YteccmlpibbchbaaGreatDoorGLb
import Derived.Deep.RegionHeld3
import Derived.Deep.DeepCutAuto
/-
  The text of a citation: a name's form with a Detail, and the joined names, in both.
-/
namespace Go.Proofs.YteccmlpibbchbaaGreatDoor.Cit
open Go.RowKit Pl Strs Help Name Stands SplitPl NmPl Word Part NGood Forms Cut IniPl Ini Nms Jn Ens Lab Kpz
open Cmp (ok_small)
set_option linter.unusedSimpArgs false
set_option linter.unusedVariables false


/-- the form of a name with a Detail -/
def cfL (d : Int) (x : Nm) : List UInt8 := if d = 2 then shortL x.xs x.p x.f x.s else if d = 3 then fullL x.xs x.p x.f x.s else jn (ls [x.p, x.f])
def cfB (d : Int) (x : Nm) : ByteArray := ba (cfL d x)
def cfs (d : Int) (L : List Nm) : List ByteArray := L.map (cfB d)
theorem cfs_len (d : Int) (L : List Nm) : (cfs d L).length = L.length := by simp [cfs]
theorem full_size {xs : List ByteArray} {p f s : ByteArray} (h : okN xs p f s = true) : (fullL xs p f s).length ≤ 100000 := by
  have e : fullL xs p f s = jn (ls [ba (jn (ls xs)), p, f, s]) := by simp [fullL, ls, toList_ba]
  have h1 := jn_len [ba (jn (ls xs)), p, f, s]
  have h2 := jn_len xs
  have h4 := ok_small h
  rw [e]
  have h5 : (ba (jn (ls xs))).size = (jn (ls xs)).length := by rw [ba_size]
  simp [lens] at h1
  omega
theorem cf_size {x : Nm} (d : Int) (h : x.ok = true) : (cfB d x).size ≤ 100000 := by
  unfold cfB cfL
  rw [ba_size]
  have h' : okN x.xs x.p x.f x.s = true := h
  split
  · have := short_size h'
    rw [ba_size] at this
    exact this
  · split
    · exact full_size h'
    · have h1 := jn_len [x.p, x.f]
      have h4 := ok_small h'
      simp [lens] at h1
      omega
theorem cfs_size {L : List Nm} (d : Int) (h : ∀ x ∈ L, x.ok = true) : ∀ y ∈ cfs d L, y.size ≤ 100000 := by
  intro y hy
  obtain ⟨x, hx, rfl⟩ := List.mem_map.1 hy
  exact cf_size d (h x hx)
theorem ls_cfs (d : Int) (L : List Nm) {k : Nat} {x : Nm} (h : L[k]? = some x) : (ls (cfs d L)).getD k [] = (cfB d x).data.toList := by
  rw [List.getD_eq_getElem?_getD]
  simp [ls, cfs, h]
set_option maxRecDepth 100000 in
set_option maxHeartbeats 2000000 in
theorem cname_i (A : Option Addr) (c n : Nat) (xs : List ByteArray) (p f s : ByteArray) (d : Int) (w : World) (h : Rdn w A n xs) (hcap : n ≤ c) (hok : okN xs p f s = true) (hd1 : 1 ≤ d) (hd3 : d ≤ 3) :
    Calls Tryz.prog 103 #[nmV (.slice A n c) p f s, .int .i64 d] w fun e w' => e = .returned (.string (cfB d ⟨A, n, c, xs, p, f, s⟩)) ∧ Below w.heap.size w w' := by
  have HB := Lib.hid ((Below.refl _ w).alloc (Nat.le_refl _) (.cells #[.slice A n c, .string p, .string f, .string s] 111))
  have hsm := ok_small hok
  have hn3 := h.2.2
  have HSh := Lib.hid (implShort A c n xs p f s _ (h.below HB.out) (okN_caps hok) (by omega) (by omega))
  have HFu := Lib.hid (implFull A c n xs p f s _ (h.below HB.out) hcap (okN_nes hok) (by omega))
  have hlp : 2 + lens [p, f] ≤ 4194304 := by simp [lens]; omega
  have E1 : Hid (cfB 1 ⟨A, n, c, xs, p, f, s⟩ = ba (jn (ls [p, f]))) := Lib.hid (by unfold cfB cfL; simp)
  have E2 : Hid (cfB 2 ⟨A, n, c, xs, p, f, s⟩ = ba (shortL xs p f s)) := Lib.hid (by unfold cfB cfL; simp)
  have E3 : Hid (cfB 3 ⟨A, n, c, xs, p, f, s⟩ = ba (fullL xs p f s)) := Lib.hid (by unfold cfB cfL; simp)
  clear h hok hcap
  by_cases h2 : d = 2
  · subst h2
    clear hsm hn3 hlp hd1 hd3
    go_enter Tryz.func103, Tryz.ntmps103
    go_wp2_with fail
    refine HSh.out.mono ?_
    rintro e w1 ⟨rfl, b1⟩
    go_wp2_with fail
    go_ret
    exact ⟨by rw [E2.out]; rfl, HB.out.trans (b1.mono HB.out.size)⟩
  · by_cases h3 : d = 3
    · subst h3
      clear hsm hn3 hlp hd1 hd3 h2
      go_enter Tryz.func103, Tryz.ntmps103
      go_wp2_with fail
      refine HFu.out.mono ?_
      rintro e w1 ⟨rfl, b1⟩
      go_wp2_with fail
      go_ret
      exact ⟨by rw [E3.out]; rfl, HB.out.trans (b1.mono HB.out.size)⟩
    · obtain rfl : d = 1 := by omega
      clear hsm hn3 hd1 hd3 h2 h3 HSh HFu E2 E3
      have hc := C4.new w (.slice A n c) p f s 111
      obtain ⟨hl0, x0, x1, x2, x3⟩ := hc
      go_enter Tryz.func103, Tryz.ntmps103
      go_upto_region 6 with fail
      generalize w.alloc (.cells #[.slice A n c, .string p, .string f, .string s] 111) = w0 at HB hl0 x0 x1 x2 x3 ⊢
      go_wp2_with fail
      refine (joinPresent _ _ 2 [p, f] _ ⟨rds_lit rfl, (fun _ a ha => by cases ha; simp), rfl⟩ hlp).mono ?_
      rintro e w1 ⟨rfl, b1⟩
      go_wp2_with fail
      go_ret
      exact ⟨by rw [E1.out]; rfl, (HB.out.alloc HB.out.size _).trans (b1.mono (HB.out.alloc HB.out.size _).size)⟩
set_option maxRecDepth 100000 in
set_option maxHeartbeats 2000000 in
theorem cname_s (A : Option Addr) (c n : Nat) (xs : List ByteArray) (p f s : ByteArray) (d : Int) (w : World) (h : Rdn w A n xs) (hok : okN xs p f s = true) (hd1 : 1 ≤ d) (hd3 : d ≤ 3) :
    Calls Tryz.prog 90 #[nmV (.slice A n c) p f s, .int .i64 d] w fun e w' => e = .returned (.string (cfB d ⟨A, n, c, xs, p, f, s⟩)) ∧ Below w.heap.size w w' := by
  have HB := Lib.hid ((Below.refl _ w).alloc (Nat.le_refl _) (.cells #[.slice A n c, .string p, .string f, .string s] 111))
  have hsm := ok_small hok
  have hn3 := h.2.2
  have HSh := Lib.hid (l2Short A c n xs p f s _ (h.below HB.out) (okN_caps hok) (by omega) (by omega))
  have HFu := Lib.hid (l2Full A c n xs p f s _ (h.below HB.out) (by omega))
  have hlp : 2 + lens [p, f] ≤ 4194304 := by simp [lens]; omega
  have E1 : Hid (cfB 1 ⟨A, n, c, xs, p, f, s⟩ = ba (jn (ls [p, f]))) := Lib.hid (by unfold cfB cfL; simp)
  have E2 : Hid (cfB 2 ⟨A, n, c, xs, p, f, s⟩ = ba (shortL xs p f s)) := Lib.hid (by unfold cfB cfL; simp)
  have E3 : Hid (cfB 3 ⟨A, n, c, xs, p, f, s⟩ = ba (fullL xs p f s)) := Lib.hid (by unfold cfB cfL; simp)
  clear h hok
  by_cases h2 : d = 2
  · subst h2
    clear hsm hn3 hlp hd1 hd3
    go_enter Tryz.func90, Tryz.ntmps90
    go_wp2_with fail
    refine HSh.out.mono ?_
    rintro e w1 ⟨rfl, b1⟩
    go_wp2_with fail
    go_ret
    exact ⟨by rw [E2.out]; rfl, HB.out.trans (b1.mono HB.out.size)⟩
  · by_cases h3 : d = 3
    · subst h3
      clear hsm hn3 hlp hd1 hd3 h2
      go_enter Tryz.func90, Tryz.ntmps90
      go_wp2_with fail
      refine HFu.out.mono ?_
      rintro e w1 ⟨rfl, b1⟩
      go_wp2_with fail
      go_ret
      exact ⟨by rw [E3.out]; rfl, HB.out.trans (b1.mono HB.out.size)⟩
    · obtain rfl : d = 1 := by omega
      clear hsm hn3 hd1 hd3 h2 h3 HSh HFu E2 E3
      have hc := C4.new w (.slice A n c) p f s 111
      obtain ⟨hl0, x0, x1, x2, x3⟩ := hc
      go_enter Tryz.func90, Tryz.ntmps90
      go_upto_region 3 with fail
      generalize w.alloc (.cells #[.slice A n c, .string p, .string f, .string s] 111) = w0 at HB hl0 x0 x1 x2 x3 ⊢
      go_wp2_with fail
      refine (l2Join _ _ 2 [p, f] _ (rds_lit rfl) rfl hlp).mono ?_
      rintro e w1 ⟨rfl, rfl⟩
      go_wp2_with fail
      go_ret
      exact ⟨by rw [E1.out]; rfl, HB.out.alloc HB.out.size _⟩
set_option maxRecDepth 100000 in
set_option maxHeartbeats 4000000 in
theorem cnames_s (A : Option Addr) (c N q : Nat) (d : Int) (L : List Nm) (w : World) (h : RdN0 w A L) (hn : L.length = N) (hN : N ≤ 4) (hq : 1 ≤ q) (hok : ∀ x ∈ L, x.ok = true) (hd1 : 1 ≤ d) (hd3 : d ≤ 3) :
    Calls Tryz.prog 67 #[.slice A N c, .int .i64 (q : Int), .int .i64 d] w fun e w' => e = .returned (.string (ba (jnB (ls (cfs d L)) q))) ∧ Below w.heap.size w w' := by
  have H := Lib.hid h
  have HN := Lib.hid hn
  have HK := Lib.hid hok
  have HFl : Hid ((ls (cfs d L)).length = N) := Lib.hid (by rw [ls_len, cfs_len, hn])
  clear h hn hok
  go_enter Tryz.func67, Tryz.ntmps67
  go_wp2_with fail
  go_loopw [7, 8] (fun s i wr => ∃ (k : Nat) (o : ByteArray), k ≤ N ∧ i = .int .i64 k ∧ s = .string o ∧ Hid (o = ba (jpre (ls (cfs d L)) k)) ∧ o.size ≤ k * 200000 ∧ Hid (k < 2 ∨ N ≤ q) ∧ Below w.heap.size w wr) (fun _ i _ => N - (intOf i).toNat)
  case atStart => exact ⟨0, _, Nat.zero_le _, rfl, rfl, Lib.hid rfl, Nat.le_refl _, Lib.hid (.inl (by omega)), Below.refl _ _⟩
  case round =>
    obtain ⟨k, o, hk, rfl, rfl, HO, hos, HQ, hb⟩ := hrel
    by_cases hlt : k < N
    · have hkx : k < L.length := by rw [HN.out]; exact hlt
      have hx? := List.getElem?_eq_getElem hkx
      obtain ⟨hr, g, oo, rfl, hg, h0, h1, h2, h3⟩ := (H.out.below hb) k L[k] hx?
      have hxk := HK.out _ (List.getElem_mem hkx)
      have HG := Lib.hid (ls_cfs d L hx?)
      have HJ := Lib.hid (jpre_succ (ls (cfs d L)) k)
      rw [HG.out, HFl.out] at HJ
      clear hx? HG
      generalize L[k] = x at *
      obtain ⟨A1, n1, c1, xs, p, f, s⟩ := x
      dsimp only at hr h0 h1 h2 h3
      have hok : okN xs p f s = true := hxk
      have hsm := ok_small hok
      have hz := cf_size (x := ⟨A1, n1, c1, xs, p, f, s⟩) d hok
      have hn1 := hr.2.2
      have HSh := Lib.hid (cname_s A1 c1 n1 xs p f s d wr hr hok hd1 hd3)
      have HJ2 : Hid (jpre (ls (cfs d L)) (k + 1) = jpre (ls (cfs d L)) k ++ ((if k = 0 then [] else if k + 1 = N then nd else cm) ++ (cfB d ⟨A1, n1, c1, xs, p, f, s⟩).data.toList)) := HJ
      clear HJ hxk hok hsm hr
      generalize cfB d ⟨A1, n1, c1, xs, p, f, s⟩ = y at *
      by_cases hk0 : k = 0
      · subst hk0
        rw [if_pos rfl] at HJ2
        simp only [Nat.zero_mul, Nat.add_zero] at h0 h1 h2 h3
        have HE : Hid (o ++ y = ba (jpre (ls (cfs d L)) (0 + 1))) := Lib.hid (by
          rw [HJ2.out, HO.out]
          apply ByteArray.ext
          simp [ba])
        have hzz : (o ++ y).size ≤ (0 + 1) * 200000 := by
          have e2 : (ByteArray.mk #[44, 32]).size = 2 := rfl
          have e5 : (ByteArray.mk #[32, 97, 110, 100, 32]).size = 5 := rfl
          simp only [ByteArray.size_append]
          omega
        clear HJ2
        go_wp2_with fail
        refine HSh.out.mono ?_
        rintro e w1 ⟨rfl, b1⟩
        go_wp2_with fail
        go_roundw
        case rel => exact ⟨0 + 1, _, by omega, by go_num, rfl, Lib.hid HE.out, hzz, Lib.hid (.inl (by omega)), hb.trans (b1.mono hb.size)⟩
        case measure => simp [intOf]; omega
      · have hkp : 0 < k := by omega
        rw [if_neg hk0] at HJ2
        by_cases hstop : k = 1 ∧ q < N
        · obtain ⟨rfl, hqN⟩ := hstop
          have HF : Hid (ba (jnB (ls (cfs d L)) q) = o ++ ⟨#[32, 101, 116, 32, 97, 108, 46]⟩) := Lib.hid (by
            rw [jnB_more (by rw [HFl.out]; exact hqN), HO.out]
            apply ByteArray.ext
            simp [ba, etal, jpre])
          clear HSh HJ2
          go_wp2_with fail
          go_ret
          exact ⟨by rw [HF.out]; rfl, hb⟩
        · have HQ2 : Hid (N ≤ q) := Lib.hid (by rcases HQ.out with h | h <;> omega)
          by_cases hk1 : k = 1
          · subst hk1
            have hqN : N ≤ q := HQ2.out
            by_cases hlast : 1 + 1 = N
            · rw [if_pos hlast] at HJ2
              have hln : ((1 : Int) == (N : Int) - 1) = true := by simp; omega
              clear hlast
              have HE : Hid (o ++ ⟨#[32, 97, 110, 100, 32]⟩ ++ y = ba (jpre (ls (cfs d L)) (1 + 1))) := Lib.hid (by
                rw [HJ2.out, HO.out]
                apply ByteArray.ext
                simp [ba, nd])
              have hzz : (o ++ ⟨#[32, 97, 110, 100, 32]⟩ ++ y).size ≤ (1 + 1) * 200000 := by
                have e2 : (ByteArray.mk #[44, 32]).size = 2 := rfl
                have e5 : (ByteArray.mk #[32, 97, 110, 100, 32]).size = 5 := rfl
                simp only [ByteArray.size_append]
                omega
              clear HJ2
              go_wp2_with fail
              refine HSh.out.mono ?_
              rintro e w1 ⟨rfl, b1⟩
              go_wp2_with fail
              go_roundw
              case rel => exact ⟨1 + 1, _, by omega, by go_num, rfl, Lib.hid HE.out, hzz, Lib.hid (.inr HQ2.out), hb.trans (b1.mono hb.size)⟩
              case measure => simp [intOf]; omega
            · rw [if_neg hlast] at HJ2
              have hl2 : 2 < N := by omega
              have hln : ((1 : Int) == (N : Int) - 1) = false := by simp; omega
              have HE : Hid (o ++ ⟨#[44, 32]⟩ ++ y = ba (jpre (ls (cfs d L)) (1 + 1))) := Lib.hid (by
                rw [HJ2.out, HO.out]
                apply ByteArray.ext
                simp [ba, cm])
              have hzz : (o ++ ⟨#[44, 32]⟩ ++ y).size ≤ (1 + 1) * 200000 := by
                have e2 : (ByteArray.mk #[44, 32]).size = 2 := rfl
                have e5 : (ByteArray.mk #[32, 97, 110, 100, 32]).size = 5 := rfl
                simp only [ByteArray.size_append]
                omega
              clear HJ2
              go_wp2_with fail
              refine HSh.out.mono ?_
              rintro e w1 ⟨rfl, b1⟩
              go_wp2_with fail
              go_roundw
              case rel => exact ⟨1 + 1, _, by omega, by go_num, rfl, Lib.hid HE.out, hzz, Lib.hid (.inr HQ2.out), hb.trans (b1.mono hb.size)⟩
              case measure => simp [intOf]; omega
          · have hk1i : ((k : Int) == 1) = false := by simp; omega
            have hk0i : (0 : Int) < (k : Int) := by omega
            by_cases hlast : k + 1 = N
            · rw [if_pos hlast] at HJ2
              have hln : ((k : Int) == (N : Int) - 1) = true := by simp; omega
              clear hlast
              have HE : Hid (o ++ ⟨#[32, 97, 110, 100, 32]⟩ ++ y = ba (jpre (ls (cfs d L)) (k + 1))) := Lib.hid (by
                rw [HJ2.out, HO.out]
                apply ByteArray.ext
                simp [ba, nd])
              have hzz : (o ++ ⟨#[32, 97, 110, 100, 32]⟩ ++ y).size ≤ (k + 1) * 200000 := by
                have e2 : (ByteArray.mk #[44, 32]).size = 2 := rfl
                have e5 : (ByteArray.mk #[32, 97, 110, 100, 32]).size = 5 := rfl
                simp only [ByteArray.size_append]
                omega
              clear HJ2
              go_wp2_with fail
              refine HSh.out.mono ?_
              rintro e w1 ⟨rfl, b1⟩
              go_wp2_with fail
              go_roundw
              case rel => exact ⟨k + 1, _, by omega, by go_num, rfl, Lib.hid HE.out, hzz, Lib.hid (.inr HQ2.out), hb.trans (b1.mono hb.size)⟩
              case measure => simp [intOf]; omega
            · rw [if_neg hlast] at HJ2
              have hln : ((k : Int) == (N : Int) - 1) = false := by simp; omega
              have HE : Hid (o ++ ⟨#[44, 32]⟩ ++ y = ba (jpre (ls (cfs d L)) (k + 1))) := Lib.hid (by
                rw [HJ2.out, HO.out]
                apply ByteArray.ext
                simp [ba, cm])
              have hzz : (o ++ ⟨#[44, 32]⟩ ++ y).size ≤ (k + 1) * 200000 := by
                have e2 : (ByteArray.mk #[44, 32]).size = 2 := rfl
                have e5 : (ByteArray.mk #[32, 97, 110, 100, 32]).size = 5 := rfl
                simp only [ByteArray.size_append]
                omega
              clear HJ2
              go_wp2_with fail
              refine HSh.out.mono ?_
              rintro e w1 ⟨rfl, b1⟩
              go_wp2_with fail
              go_roundw
              case rel => exact ⟨k + 1, _, by omega, by go_num, rfl, Lib.hid HE.out, hzz, Lib.hid (.inr HQ2.out), hb.trans (b1.mono hb.size)⟩
              case measure => simp [intOf]; omega
    · obtain rfl : k = N := by omega
      have HF : Hid (ba (jnB (ls (cfs d L)) q) = o) := Lib.hid (by
        rw [jnB_all (by rw [HFl.out]; rcases HQ.out with h | h <;> omega), HFl.out, HO.out])
      go_wp2_with fail
      go_ret
      exact ⟨by rw [HF.out]; rfl, hb⟩


end Go.Proofs.YteccmlpibbchbaaGreatDoor.Cit
/-
  The text of a citation: cmp.Or at three texts, citedNames, citedYear and the year of the model.
-/
namespace Go.Proofs.YteccmlpibbchbaaGreatDoor.Cit
open Go.RowKit Pl Strs Help Name Stands SplitPl NmPl Word Part NGood Forms Cut IniPl Ini Nms Jn Ens Lab Kpz Ce Rdf LdPl
open Cmp (ok_small)
open Num (Tab Tab.below)
set_option linter.unusedSimpArgs false
set_option linter.unusedVariables false


theorem ne_str {s : ByteArray} (h : 0 < s.size) : (s.toList == []) = false ∧ s.toList.isEmpty = false := by
  have hn : s.data.toList ≠ [] := by intro e; have := len_size s; rw [e] at this; simp at this; omega
  rw [Lib.toList_data]
  exact ⟨by rw [beq_eq_false_iff_ne]; exact hn, List.isEmpty_eq_false_iff.2 hn⟩
theorem nil_str {s : ByteArray} (h : ¬ 0 < s.size) : s = ⟨#[]⟩ := ByteArray.ext (Array.eq_empty_of_size_eq_zero (show s.data.size = 0 by have : s.data.size = s.size := rfl; omega))
/-- the first text that is not empty -/
def fst3 (a b d : ByteArray) : ByteArray := if 0 < a.size then a else if 0 < b.size then b else d
set_option maxHeartbeats 2000000 in
theorem or3 (A : Option Addr) (c : Nat) (a b d : ByteArray) (w : World) (h : RdS w A [a, b, d]) (hu : 0 < d.size) :
    Calls Tryz.prog 104 #[.slice A 3 c] w fun e w' => e = .returned (.string (fst3 a b d)) ∧ w = w' := by
  obtain ⟨g, o, rfl, c0⟩ := h 0 a rfl
  obtain ⟨g', o', e, c1⟩ := h 1 b rfl
  cases e
  obtain ⟨g'', o'', e, c2⟩ := h 2 d rfl
  cases e
  rw [Nat.add_zero] at c0
  obtain ⟨e1a, e1b⟩ := ne_str hu
  clear h
  unfold fst3
  by_cases ha : 0 < a.size
  · obtain ⟨e2a, e2b⟩ := ne_str ha
    rw [if_pos ha]
    clear ha
    go_enter Tryz.func104, Tryz.ntmps104
    go_wp2_with fail
    go_loop [8] (fun i => ∃ k : Nat, k ≤ 0 ∧ i = .int .i64 k) (fun i => 3 - (intOf i).toNat)
    case atStart => exact ⟨0, Nat.le_refl _, rfl⟩
    case round =>
      obtain ⟨k, hk, rfl⟩ := hrel
      obtain rfl : k = 0 := by omega
      go_wp2_with fail
      go_ret
      exact ⟨rfl, rfl⟩
  · rw [if_neg ha]
    obtain rfl := nil_str ha
    clear ha
    by_cases hb : 0 < b.size
    · obtain ⟨e2a, e2b⟩ := ne_str hb
      rw [if_pos hb]
      clear hb
      go_enter Tryz.func104, Tryz.ntmps104
      go_wp2_with fail
      go_loop [8] (fun i => ∃ k : Nat, k ≤ 1 ∧ i = .int .i64 k) (fun i => 3 - (intOf i).toNat)
      case atStart => exact ⟨0, by omega, rfl⟩
      case round =>
        obtain ⟨k, hk, rfl⟩ := hrel
        by_cases hk0 : k = 0
        · subst hk0
          go_wp2_with fail
          go_round
          case rel => exact ⟨1, by omega, by go_num⟩
          case measure => simp [intOf]
        · obtain rfl : k = 1 := by omega
          go_wp2_with fail
          go_ret
          exact ⟨rfl, rfl⟩
    · rw [if_neg hb]
      obtain rfl := nil_str hb
      clear hb
      go_enter Tryz.func104, Tryz.ntmps104
      go_wp2_with fail
      go_loop [8] (fun i => ∃ k : Nat, k ≤ 2 ∧ i = .int .i64 k) (fun i => 3 - (intOf i).toNat)
      case atStart => exact ⟨0, by omega, rfl⟩
      case round =>
        obtain ⟨k, hk, rfl⟩ := hrel
        by_cases hk0 : k = 0
        · subst hk0
          go_wp2_with fail
          go_round
          case rel => exact ⟨1, by omega, by go_num⟩
          case measure => simp [intOf]
        · by_cases hk1 : k = 1
          · subst hk1
            go_wp2_with fail
            go_round
            case rel => exact ⟨2, by omega, by go_num⟩
            case measure => simp [intOf]
          · obtain rfl : k = 2 := by omega
            go_wp2_with fail
            go_ret
            exact ⟨rfl, rfl⟩
/-- the names of a citation -/
def ctN (x : En) (n : Nat) (d : Int) : ByteArray := ba (jnB (ls (cfs d (mainL x))) n)

set_option maxRecDepth 100000 in
set_option maxHeartbeats 8000000 in
theorem names_i (key : ByteArray) (kind : Int) (auA : Option Addr) (auN : Nat) (auc : Nat) (auL : List Nm) (edA : Option Addr) (edN : Nat) (edc : Nat) (edL : List Nm) (ti : ByteArray) (co : ByteArray) (pu : ByteArray) (y : Int) (m : Int) (d : Int) (ci : Bool) (vol : Int) (pa : ByteArray) (cr : ByteArray) (lk : ByteArray) (q : Nat) (ld lt : Int) (w : World) (hr : (⟨key, kind, auA, auN, auc, auL, edA, edN, edc, edL, ti, co, pu, y, m, d, ci, vol, pa, cr⟩ : En).Rd w) (hok : okE (⟨key, kind, auA, auN, auc, auL, edA, edN, edc, edL, ti, co, pu, y, m, d, ci, vol, pa, cr⟩ : En) = true) (hcp : ∀ x ∈ mainL (⟨key, kind, auA, auN, auc, auL, edA, edN, edc, edL, ti, co, pu, y, m, d, ci, vol, pa, cr⟩ : En), x.n ≤ x.c) (hq1 : 1 ≤ q) (hq4 : q ≤ 4) (hd1 : 1 ≤ ld) (hd3 : ld ≤ 3) (hk : 0 < key.size) :
    Calls Tryz.prog 77 #[.agg #[.string key, .int .i64 kind, .slice auA auN auc, .slice edA edN edc, .string ti, .string co, .string pu, .int .i64 y, .int .i64 m, .int .i64 d, .bool ci, .int .i64 vol, .string pa, .string cr], lbV lk (q : Int) ld lt] w fun e w' => e = .returned (.string (fst3 (ctN (⟨key, kind, auA, auN, auc, auL, edA, edN, edc, edL, ti, co, pu, y, m, d, ci, vol, pa, cr⟩ : En) q ld) ti key)) ∧ Below w.heap.size w w' := by
  obtain ⟨mA, mN, mc, hm⟩ := main_pick (⟨key, kind, auA, auN, auc, auL, edA, edN, edc, edL, ti, co, pu, y, m, d, ci, vol, pa, cr⟩ : En)
  obtain ⟨hmr, hml⟩ := main_rd hr hm
  obtain ⟨hm4, hmo⟩ := main_ok hok
  have HMi := Lib.hid (fun w => main_i key kind auA auN auc auL edA edN edc edL ti co pu y m d ci vol pa cr mA mN mc w hm)
  unfold ctN
  generalize mainL (⟨key, kind, auA, auN, auc, auL, edA, edN, edc, edL, ti, co, pu, y, m, d, ci, vol, pa, cr⟩ : En) = ML at *
  have HX := Lib.hid (E14.new w (⟨key, kind, auA, auN, auc, auL, edA, edN, edc, edL, ti, co, pu, y, m, d, ci, vol, pa, cr⟩ : En) 58)
  have hB0 : Below w.heap.size w ((w.alloc (.cells #[.string key, .int .i64 kind, .slice auA auN auc, .slice edA edN edc, .string ti, .string co, .string pu, .int .i64 y, .int .i64 m, .int .i64 d, .bool ci, .int .i64 vol, .string pa, .string cr] 58)).alloc (.cells #[.string lk, .int .i64 (q : Int), .int .i64 ld, .int .i64 lt] 53)) := ((Below.refl _ w).alloc (Nat.le_refl _) _).alloc (by simp) _
  have hB01 : Below (w.alloc (.cells #[.string key, .int .i64 kind, .slice auA auN auc, .slice edA edN edc, .string ti, .string co, .string pu, .int .i64 y, .int .i64 m, .int .i64 d, .bool ci, .int .i64 vol, .string pa, .string cr] 58)).heap.size (w.alloc (.cells #[.string key, .int .i64 kind, .slice auA auN auc, .slice edA edN edc, .string ti, .string co, .string pu, .int .i64 y, .int .i64 m, .int .i64 d, .bool ci, .int .i64 vol, .string pa, .string cr] 58)) ((w.alloc (.cells #[.string key, .int .i64 kind, .slice auA auN auc, .slice edA edN edc, .string ti, .string co, .string pu, .int .i64 y, .int .i64 m, .int .i64 d, .bool ci, .int .i64 vol, .string pa, .string cr] 58)).alloc (.cells #[.string lk, .int .i64 (q : Int), .int .i64 ld, .int .i64 lt] 53)) := (Below.refl _ _).alloc (Nat.le_refl _) _
  have hEx := HX.out.below hB01
  have hl1 : ((w.alloc (.cells #[.string key, .int .i64 kind, .slice auA auN auc, .slice edA edN edc, .string ti, .string co, .string pu, .int .i64 y, .int .i64 m, .int .i64 d, .bool ci, .int .i64 vol, .string pa, .string cr] 58)).alloc (.cells #[.string lk, .int .i64 (q : Int), .int .i64 ld, .int .i64 lt] 53)).cell? ⟨w.heap.size + 1, 1, none⟩ = some (.int .i64 (q : Int)) := by simp
  have hl2 : ((w.alloc (.cells #[.string key, .int .i64 kind, .slice auA auN auc, .slice edA edN edc, .string ti, .string co, .string pu, .int .i64 y, .int .i64 m, .int .i64 d, .bool ci, .int .i64 vol, .string pa, .string cr] 58)).alloc (.cells #[.string lk, .int .i64 (q : Int), .int .i64 ld, .int .i64 lt] 53)).cell? ⟨w.heap.size + 1, 2, none⟩ = some (.int .i64 ld) := by simp
  have hs1 : w.heap.size + 1 < ((w.alloc (.cells #[.string key, .int .i64 kind, .slice auA auN auc, .slice edA edN edc, .string ti, .string co, .string pu, .int .i64 y, .int .i64 m, .int .i64 d, .bool ci, .int .i64 vol, .string pa, .string cr] 58)).alloc (.cells #[.string lk, .int .i64 (q : Int), .int .i64 ld, .int .i64 lt] 53)).heap.size := by simp
  have hN4 : mN ≤ 4 := by omega
  have HN := Lib.hid hml
  have HAll := Lib.hid hmo
  have HCp := Lib.hid hcp
  have HR := Lib.hid hmr
  have HFs := Lib.hid (cfs_size ld hmo)
  have HFl : Hid ((cfs ld ML).length = mN) := Lib.hid (by rw [cfs_len, hml])
  clear hr hok hcp hmr hml hm4 hmo hm HX hB01
  go_enter Tryz.func77, Tryz.ntmps77
  go_upto_region 1 with fail
  generalize (w.alloc (.cells #[.string key, .int .i64 kind, .slice auA auN auc, .slice edA edN edc, .string ti, .string co, .string pu, .int .i64 y, .int .i64 m, .int .i64 d, .bool ci, .int .i64 vol, .string pa, .string cr] 58)).alloc _ = w0 at hB0 hEx hl1 hl2 hs1 ⊢
  have HEb : Hid (∀ w', Below w0.heap.size w0 w' → E14 w' w.heap.size (⟨key, kind, auA, auN, auc, auL, edA, edN, edc, edL, ti, co, pu, y, m, d, ci, vol, pa, cr⟩ : En) ∧ w'.cell? ⟨w.heap.size + 1, 1, none⟩ = some (.int .i64 (q : Int)) ∧ w'.cell? ⟨w.heap.size + 1, 2, none⟩ = some (.int .i64 ld)) := Lib.hid (fun w' h => ⟨hEx.below h, (h.cell (p := ⟨w.heap.size + 1, 1, none⟩) hs1).trans hl1, (h.cell (p := ⟨w.heap.size + 1, 2, none⟩) hs1).trans hl2⟩)
  clear hEx hl1 hl2 hs1
  have hb00 : Below w0.heap.size w0 (w0.alloc (.cells #[] 9)) := (Below.refl _ _).alloc (Nat.le_refl _) _
  have ho0 : (w0.alloc (.cells #[] 9)).ownsRow w0.heap.size 9 1 (.slice (some ⟨w0.heap.size, 0, none⟩) 0 0) 0 [] := by
    have h9 := World.ownsRow_lit (base := w0.heap.size) (e := 9) (size := 1) w0 #[] 0 (Nat.le_refl _) (Nat.zero_le _) rfl
    simpa using h9
  obtain ⟨⟨hl, c0, c1, c2, c3, c4, c5, c6, c7, c8, c9, c10, c11, c12, c13⟩, q1, q2⟩ := HEb.out _ hb00
  dsimp only at c0 c1 c2 c3 c4 c5 c6 c7 c8 c9 c10 c11 c12 c13
  go_upto_region 2 with fail
  generalize hW : w0.alloc (.cells #[] 9) = wa at hb00 ho0 hl c0 c1 c2 c3 c4 c5 c6 c7 c8 c9 c10 c11 c12 c13 q1 q2 ⊢
  clear hW
  go_wp2_with fail
  refine (HMi.out _).mono ?_
  rintro e w1 ⟨rfl, b1⟩
  have ho1 := Cs.own_below ho0 b1
  have hb1 := hb00.trans (b1.mono hb00.size)
  clear c0 c1 c2 c3 c4 c5 c6 c7 c8 c9 c10 c11 c12 c13 q1 q2 hl ho0 b1 HMi hb00
  obtain ⟨i0, hi, hz0, hz1, hz2⟩ := info_parts Split.infoStr
  go_wp2_with fail
  go_loopw [5, 12] (fun v i wr => ∃ k : Nat, k ≤ mN ∧ i = .int .i64 k ∧ wr.ownsRow w0.heap.size 9 1 v k (((cfs ld ML).take k).map Value.string) ∧ Below w0.heap.size w0 wr) (fun _ i _ => mN - (intOf i).toNat)
  case atStart => exact ⟨0, Nat.zero_le _, rfl, by simpa using ho1, hb1⟩
  case round =>
    obtain ⟨k, hk', rfl, hown, hbe⟩ := hrel
    have hb0 := hB0.trans (hbe.mono hB0.size)
    obtain ⟨⟨hl, c0, c1, c2, c3, c4, c5, c6, c7, c8, c9, c10, c11, c12, c13⟩, q1, q2⟩ := HEb.out _ hbe
    dsimp only at c0 c1 c2 c3 c4 c5 c6 c7 c8 c9 c10 c11 c12 c13
    by_cases hlt : k < mN
    · have hkx : k < ML.length := by rw [HN.out]; exact hlt
      have hx? := List.getElem?_eq_getElem hkx
      obtain ⟨hr, g, o, rfl, hg, h0, h1, h2, h3⟩ := (HR.out.below hb0) k ML[k] hx?
      have hxk := HAll.out _ (List.getElem_mem hkx)
      have hxc := HCp.out _ (List.getElem_mem hkx)
      have HFk : Hid ((cfs ld ML).take (k + 1) = (cfs ld ML).take k ++ [cfB ld ML[k]]) := Lib.hid (by
        rw [List.take_add_one]
        congr 1
        simp [cfs, hx?])
      have hyz := cf_size ld hxk
      clear hx?
      generalize ML[k] = x at *
      obtain ⟨A1, n1, c1', xs, p, fa, s⟩ := x
      dsimp only at hr h0 h1 h2 h3 hxc
      have hok : okN xs p fa s = true := hxk
      have b5 := (Below.refl _ wr).alloc (Nat.le_refl _) (.cells #[.slice A1 n1 c1', .string p, .string fa, .string s] 111)
      obtain ⟨-, -, q2⟩ := HEb.out _ (hbe.trans (b5.mono hbe.size))
      have HSh := Lib.hid (cname_i A1 c1' n1 xs p fa s ld _ (hr.below b5) hxc hok hd1 hd3)
      clear hxk hok hr hxc c0 c1 c2 c3 c4 c5 c6 c7 c8 c9 c10 c11 c12 c13 q1 hl
      generalize cfB ld ⟨A1, n1, c1', xs, p, fa, s⟩ = yb at *
      go_wp2_with fail
      refine HSh.out.mono ?_
      rintro e w2 ⟨rfl, b2⟩
      have b25 := b5.trans (b2.mono b5.size)
      have hown2 := own_kept hown b25
      have hbe2 := hbe.trans (b25.mono hbe.size)
      have hbs2 := hbe2.size
      clear hown b2 b5 HSh
      go_wp2_with (first
        | (at_builtin; refine wpList_append_own _ rfl _ _ 61 rfl w0.heap.size 9 i0 (.string ByteArray.empty) 1 16 Tryz.underlying61 hi hz0 hz1 hz2 rfl (by decide) _ _ _ rfl (hown2.alloc _) ⟨w2.heap.size, 0, none⟩ 1 1 [.string yb] rfl rfl (cell_one_new _ _ _) (by simp [Value.oneCell']) (by unfold maxLen; omega) (by omega) (by simp; omega) ?_; intro v' w3 hown' hgrow _)
        | go_in)
      go_roundw
      case rel =>
        refine ⟨k + 1, by omega, by go_num, ?_, (hbe2.alloc hbe2.size _).grown hgrow (by simp; have := hbe2.size; omega) (fun g hg => (hown2.lt g hg).1)⟩
        rw [HFk.out]
        simpa using hown'
      case measure => simp [intOf]; omega
    · obtain rfl : k = mN := by omega
      have HT : Hid ((cfs ld ML).take k = cfs ld ML) := Lib.hid (List.take_of_length_le (by rw [HFl.out]; exact Nat.le_refl _))
      rw [HT.out] at hown
      obtain ⟨A1, c1', rfl, _, _, _⟩ := own_rds hown
      have hcap := own_cap hown
      have HJ := Lib.hid (fun w' (h : Kept wr w') => joinForms A1 c1' _ q (cfs ld ML) w' (Rdn.own (own_kept hown h)) hcap hN4 hq1 hq4 HFs.out)
      have HS : Hid (∀ w', Kept wr w' → (w'.cell? ⟨w.heap.size + 1, 1, none⟩ = some (.int .i64 (q : Int)) ∧ w'.cell? ⟨w.heap.size, 4, none⟩ = some (.string ti) ∧ w'.cell? ⟨w.heap.size, 0, none⟩ = some (.string key) ∧ Kept wr w')) := Lib.hid (fun w' h => by
        obtain ⟨⟨hl, c0, c1, c2, c3, c4, c5, c6, c7, c8, c9, c10, c11, c12, c13⟩, q1, q2⟩ := HEb.out _ (hbe.trans (Below.mono h hbe.size))
        exact ⟨q1, c4, c0, h⟩)
      have HK0 := Lib.hid (Kept.drew wr)
      clear hown hcap c0 c1 c2 c3 c4 c5 c6 c7 c8 c9 c10 c11 c12 c13 q1 q2 hl
      generalize hjb : ba (jnB (ls (cfs ld ML)) q) = jb at *
      have HJb := Lib.hid hjb
      clear hjb
      go_wp2_with fail
      go_region_held3 (fun w' => w'.cell? ⟨w.heap.size + 1, 1, none⟩ = some (.int .i64 (q : Int)) ∧ w'.cell? ⟨w.heap.size, 4, none⟩ = some (.string ti) ∧ w'.cell? ⟨w.heap.size, 0, none⟩ = some (.string key) ∧ Kept wr w')
        (first | exact HS.out _ HK0.out | exact HS.out _ (by assumption) | exact HS.out _ (Kept.alloc (by assumption) _))
        (first
          | (go_at_call 104; refine (or3 _ _ jb ti key _ (rds_lit rfl) hk).mono ?_; rintro e w8 ⟨rfl, rfl⟩; have hk8 := Kept.alloc hk7 (.cells #[.string jb, .string ti, .string key] 9))
          | (go_at_call 105; refine (HJ.out _ HK0.out).mono ?_; rintro e w7 ⟨rfl, b7⟩; have hk7 : Kept wr w7 := Kept.next HK0.out b7))
      go_wp2_with fail
      go_ret
      exact ⟨by rw [HJb.out]; rfl, hb0.trans (Below.mono hk8 hb0.size)⟩

end Go.Proofs.YteccmlpibbchbaaGreatDoor.Cit
/-
  The year of a citation, in both.
-/
namespace Go.Proofs.YteccmlpibbchbaaGreatDoor.Cit
open Go.RowKit Pl Strs Help Name Stands SplitPl NmPl Word Part NGood Forms Cut IniPl Ini Nms Jn Ens Lab Kpz Ce Rdf LdPl
open Cmp (ok_small)
open Num (Tab Tab.below)
set_option linter.unusedSimpArgs false
set_option linter.unusedVariables false


def ndT : ByteArray := ⟨#[110, 46, 100, 46]⟩
def ltT (t : Int) : ByteArray := ⟨#[UInt8.ofNat (96 + t.toNat)]⟩
theorem app_nil (D : ByteArray) : D ++ (⟨#[]⟩ : ByteArray) = D := by apply ByteArray.ext; simp
/-- the year of a citation with a letter -/
def ctY (D : ByteArray) (t : Int) : ByteArray := if 0 < D.size then (if t = 0 then D else D ++ ltT t) else (if t = 0 then ndT else ndT ++ ⟨#[45]⟩ ++ ltT t)

set_option maxRecDepth 100000 in
set_option maxHeartbeats 8000000 in
theorem yearf_i (key : ByteArray) (kind : Int) (auA : Option Addr) (auN : Nat) (auc : Nat) (auL : List Nm) (edA : Option Addr) (edN : Nat) (edc : Nat) (edL : List Nm) (ti : ByteArray) (co : ByteArray) (pu : ByteArray) (y : Int) (m : Int) (d : Int) (ci : Bool) (vol : Int) (pa : ByteArray) (cr : ByteArray) (w : World) (p3 : DtPl.okB y m d ci = true) (ht : Tab w) (hmn : Mon w) :
    Calls Tryz.prog 106 #[.agg #[.string key, .int .i64 kind, .slice auA auN auc, .slice edA edN edc, .string ti, .string co, .string pu, .int .i64 y, .int .i64 m, .int .i64 d, .bool ci, .int .i64 vol, .string pa, .string cr, .int .i64 0], .string ⟨#[121, 101, 97, 114]⟩] w fun e w' => e = .returned (.string (dlT y 0 0 ci)) ∧ Below w.heap.size w w' := by
  have HB := Lib.hid (Dt.box_below w (.cells #[.string key, .int .i64 kind, .slice auA auN auc, .slice edA edN edc, .string ti, .string co, .string pu, .int .i64 y, .int .i64 m, .int .i64 d, .bool ci, .int .i64 vol, .string pa, .string cr, .int .i64 0] 128))
  have HY := Lib.hid (fun w' (hk : Below w.heap.size w w') => long_i y 0 0 ci w' (ok_year p3) (ht.below hk) (hmn.below hk))
  clear ht hmn p3
  go_enter Tryz.func106, Tryz.ntmps106
  go_wp2_with fail
  refine (HY.out _ HB.out).mono ?_
  rintro e w1 ⟨rfl, b1⟩
  go_wp2_with fail
  go_ret
  exact ⟨rfl, HB.out.trans (b1.mono HB.out.size)⟩
theorem enc_lt {t : Int} (h1 : 1 ≤ t) (h2 : t ≤ 26) : Utf8.encode (97 + t - 1) = ltT t := by
  unfold Utf8.encode ltT Utf8.valid
  have e : (97 + t - 1).toNat = 96 + t.toNat := by omega
  have hv : (decide (0 ≤ 97 + t - 1) && decide (97 + t - 1 < 0xD800) || decide (0xE000 ≤ 97 + t - 1) && decide (97 + t - 1 ≤ 0x10FFFF)) = true := by simp; omega
  simp only [hv, if_true, e]
  rw [if_pos (by omega)]
theorem wr32 {t : Int} (h1 : 1 ≤ t) (h2 : t ≤ 26) : IntKind.i32.wrap (97 + t - 1) = 97 + t - 1 := by
  unfold IntKind.wrap
  simp [IntKind.bits]
  omega
theorem dl_size {y m d : Int} {c : Bool} (h : DtPl.okB y m d c = true) : (dlT y 0 0 c).size ≤ 4000 := by
  have hbd := DtPl.ok_bd h
  obtain ⟨y, rfl⟩ := Int.eq_ofNat_of_zero_le hbd.1
  have hy : y ≤ 2999 := by omega
  unfold dlT
  split
  · exact Nat.zero_le _
  · rename_i h0
    have e := ltext_year y c (by omega)
    have h1 := Num.dec_len y
    simp only [Int.toNat_natCast, Int.toNat_zero]
    rw [ba_size, e, List.length_append]
    have h2 : (if c then ca else []).length ≤ 4 := by cases c <;> simp [ca]
    omega
theorem enc_size {t : Int} (h1 : 1 ≤ t) (h2 : t ≤ 26) : (Utf8.encode (97 + t - 1)).size = 1 := by rw [enc_lt h1 h2]; rfl
set_option maxRecDepth 100000 in
set_option maxHeartbeats 8000000 in
theorem year_i (key : ByteArray) (kind : Int) (auA : Option Addr) (auN : Nat) (auc : Nat) (auL : List Nm) (edA : Option Addr) (edN : Nat) (edc : Nat) (edL : List Nm) (ti : ByteArray) (co : ByteArray) (pu : ByteArray) (y : Int) (m : Int) (d : Int) (ci : Bool) (vol : Int) (pa : ByteArray) (cr : ByteArray) (t : Int) (w : World) (p3 : DtPl.okB y m d ci = true) (h0 : 0 ≤ t) (h26 : t ≤ 26) (ht : Tab w) (hmn : Mon w) :
    Calls Tryz.prog 78 #[.agg #[.string key, .int .i64 kind, .slice auA auN auc, .slice edA edN edc, .string ti, .string co, .string pu, .int .i64 y, .int .i64 m, .int .i64 d, .bool ci, .int .i64 vol, .string pa, .string cr], .int .i64 t] w fun e w' => e = .returned (.string (ctY (dlT y 0 0 ci) t)) ∧ Below w.heap.size w w' := by
  have HB := Lib.hid (Dt.box_below w (.cells #[.string key, .int .i64 kind, .slice auA auN auc, .slice edA edN edc, .string ti, .string co, .string pu, .int .i64 y, .int .i64 m, .int .i64 d, .bool ci, .int .i64 vol, .string pa, .string cr] 58))
  have HY := Lib.hid (fun w' (hk : Below w.heap.size w w') => yearf_i key kind auA auN auc auL edA edN edc edL ti co pu y m d ci vol pa cr w' p3 (ht.below hk) (hmn.below hk))
  have hDs := dl_size p3
  clear ht hmn p3
  unfold ctY
  generalize dlT y 0 0 ci = D at *
  have z1 : (D ++ (⟨#[]⟩ : ByteArray)).size = D.size := by rw [app_nil]
  by_cases hD : 0 < D.size
  · obtain ⟨e1, e2⟩ := ne_str hD
    rw [if_pos hD]
    clear hD
    by_cases h : t = 0
    · subst h
      rw [if_pos rfl]
      go_enter Tryz.func78, Tryz.ntmps78
      go_wp2_with fail
      refine (HY.out _ HB.out).mono ?_
      rintro e w1 ⟨rfl, b1⟩
      go_wp2_with fail
      go_ret
      exact ⟨rfl, HB.out.trans (b1.mono HB.out.size)⟩
    · rw [if_neg h]
      have hw := wr32 (show 1 ≤ t by omega) h26
      have HEn := Lib.hid (enc_lt (show 1 ≤ t by omega) h26)
      have hes := enc_size (show 1 ≤ t by omega) h26
      go_enter Tryz.func78, Tryz.ntmps78
      go_wp2_with fail
      refine (HY.out _ HB.out).mono ?_
      rintro e w1 ⟨rfl, b1⟩
      go_wp2_with fail
      go_ret
      exact ⟨by rw [← HEn.out]; exact Ld.ret_str (by rw [app_nil]), HB.out.trans (b1.mono HB.out.size)⟩
  · rw [if_neg hD]
    obtain rfl := nil_str hD
    clear hD
    have z2 : (ndT ++ (⟨#[45]⟩ : ByteArray)).size = 5 := rfl
    unfold ndT at z2 ⊢
    by_cases h : t = 0
    · subst h
      rw [if_pos rfl]
      go_enter Tryz.func78, Tryz.ntmps78
      go_wp2_with fail
      refine (HY.out _ HB.out).mono ?_
      rintro e w1 ⟨rfl, b1⟩
      go_wp2_with fail
      go_ret
      exact ⟨rfl, HB.out.trans (b1.mono HB.out.size)⟩
    · rw [if_neg h]
      have hw := wr32 (show 1 ≤ t by omega) h26
      have HEn := Lib.hid (enc_lt (show 1 ≤ t by omega) h26)
      have hes := enc_size (show 1 ≤ t by omega) h26
      go_enter Tryz.func78, Tryz.ntmps78
      go_wp2_with fail
      refine (HY.out _ HB.out).mono ?_
      rintro e w1 ⟨rfl, b1⟩
      go_wp2_with fail
      go_ret
      exact ⟨by rw [← HEn.out]; rfl, HB.out.trans (b1.mono HB.out.size)⟩

end Go.Proofs.YteccmlpibbchbaaGreatDoor.Cit
/-
  The text of a citation in both.
-/
namespace Go.Proofs.YteccmlpibbchbaaGreatDoor.Cit
open Go.RowKit Pl Strs Help Name Stands SplitPl NmPl Word Part NGood Forms Cut IniPl Ini Nms Jn Ens Lab Kpz Ce Rdf LdPl
open Cmp (ok_small)
open Num (Tab Tab.below)
set_option linter.unusedSimpArgs false
set_option linter.unusedVariables false


theorem jpre_len {F : List (List UInt8)} (h : ∀ x ∈ F, x.length ≤ 100000) : ∀ k, (jpre F k).length ≤ k * 100010
  | 0 => Nat.zero_le _
  | k + 1 => by
    have ih := jpre_len h k
    rw [jpre_succ, List.length_append, List.length_append]
    have h1 : (if k = 0 then [] else if k + 1 = F.length then Jn.nd else cm : List UInt8).length ≤ 5 := by
      split
      · simp
      · split <;> simp [Jn.nd, cm]
    have h2 : (F.getD k []).length ≤ 100000 := by
      rw [List.getD_eq_getElem?_getD]
      cases e : F[k]? with
      | none => simp
      | some x => exact h x (List.mem_of_getElem? e)
    omega
theorem jnB_len {F : List (List UInt8)} (h : ∀ x ∈ F, x.length ≤ 100000) (hl : F.length ≤ 4) (q : Nat) : (jnB F q).length ≤ 400100 := by
  by_cases hq : q < F.length
  · rw [jnB_more hq, List.length_append]
    have h2 : (F.getD 0 []).length ≤ 100000 := by
      rw [List.getD_eq_getElem?_getD]
      cases e : F[0]? with
      | none => simp
      | some x => exact h x (List.mem_of_getElem? e)
    have : etal.length = 7 := rfl
    omega
  · rw [jnB_all (by omega)]
    have := jpre_len h F.length
    have : F.length * 100010 ≤ 4 * 100010 := Nat.mul_le_mul_right _ hl
    omega
theorem ctN_size {x : En} (h : okE x = true) (q : Nat) (d : Int) : (ctN x q d).size ≤ 400100 := by
  obtain ⟨h4, ho⟩ := main_ok h
  unfold ctN
  rw [ba_size]
  refine jnB_len (fun y hy => ?_) (by rw [ls_len, cfs_len]; exact h4) q
  obtain ⟨z, hz, rfl⟩ := List.mem_map.1 hy
  have := cfs_size d ho z hz
  rw [len_size]
  exact this
theorem fst3_size {a b d : ByteArray} {n : Nat} (h1 : a.size ≤ n) (h2 : b.size ≤ n) (h3 : d.size ≤ n) : (fst3 a b d).size ≤ n := by
  unfold fst3
  split
  · exact h1
  · split
    · exact h2
    · exact h3
theorem ctY_size {D : ByteArray} {t : Int} (h : D.size ≤ 4000) : (ctY D t).size ≤ 5000 := by
  have h1 : (ltT t).size = 1 := rfl
  have h2 : ndT.size = 4 := rfl
  have h3 : (⟨#[45]⟩ : ByteArray).size = 1 := rfl
  unfold ctY
  split
  · split
    · omega
    · rw [ByteArray.size_append]; omega
  · split
    · omega
    · rw [ByteArray.size_append, ByteArray.size_append]; omega
/-- the text of a citation -/
def ctS (x : En) (n d t : Int) : ByteArray := fst3 (ctN x n.toNat d) x.ti x.key ++ (⟨#[32]⟩ : ByteArray) ++ ctY (dlT x.y 0 0 x.ci) t
theorem key_pos {x : En} (h : okE x = true) : 0 < x.key.size := by
  unfold okE at h
  simp only [Bool.and_eq_true] at h
  have h1 := h.1
  unfold Kt.keyB at h1
  simp only [Bool.and_eq_true, decide_eq_true_eq] at h1
  omega
theorem wrt_parts {n d t : Int} (h : wrt n d t = true) : (1 ≤ n ∧ n ≤ 4) ∧ (1 ≤ d ∧ d ≤ 3) ∧ (0 ≤ t ∧ t ≤ 26) := by
  unfold wrt at h
  simp only [Bool.and_eq_true, decide_eq_true_eq] at h
  exact ⟨h.1.1, h.1.2, h.2⟩

set_option maxRecDepth 100000 in
set_option maxHeartbeats 16000000 in
theorem text_i (key : ByteArray) (kind : Int) (auA : Option Addr) (auN : Nat) (auc : Nat) (auL : List Nm) (edA : Option Addr) (edN : Nat) (edc : Nat) (edL : List Nm) (ti : ByteArray) (co : ByteArray) (pu : ByteArray) (y : Int) (m : Int) (d : Int) (ci : Bool) (vol : Int) (pa : ByteArray) (cr : ByteArray) (lk : ByteArray) (ln ld lt : Int) (w : World) (hr : (⟨key, kind, auA, auN, auc, auL, edA, edN, edc, edL, ti, co, pu, y, m, d, ci, vol, pa, cr⟩ : En).Rd w) (hz : (⟨key, kind, auA, auN, auc, auL, edA, edN, edc, edL, ti, co, pu, y, m, d, ci, vol, pa, cr⟩ : En).sz ≤ 1048576) (hok : okE (⟨key, kind, auA, auN, auc, auL, edA, edN, edc, edL, ti, co, pu, y, m, d, ci, vol, pa, cr⟩ : En) = true) (hcp : ∀ x ∈ mainL (⟨key, kind, auA, auN, auc, auL, edA, edN, edc, edL, ti, co, pu, y, m, d, ci, vol, pa, cr⟩ : En), x.n ≤ x.c) (hw : wrt ln ld lt = true) (ht : Tab w) (hmn : Mon w) :
    Calls Tryz.prog 54 #[.agg #[.string key, .int .i64 kind, .slice auA auN auc, .slice edA edN edc, .string ti, .string co, .string pu, .int .i64 y, .int .i64 m, .int .i64 d, .bool ci, .int .i64 vol, .string pa, .string cr], lbV lk ln ld lt] w fun e w' => e = .returned (.string (ctS (⟨key, kind, auA, auN, auc, auL, edA, edN, edc, edL, ti, co, pu, y, m, d, ci, vol, pa, cr⟩ : En) ln ld lt)) ∧ Below w.heap.size w w' := by
  obtain ⟨⟨hn1, hn4⟩, ⟨hd1, hd3⟩, ht0, ht26⟩ := wrt_parts hw
  obtain ⟨q, rfl⟩ := Int.eq_ofNat_of_zero_le (show 0 ≤ ln by omega)
  have hz' : key.size + (auN + szL auL) + (edN + szL edL) + ti.size + co.size + pu.size + pa.size + cr.size ≤ 1048576 := hz
  obtain ⟨-, -, p3⟩ := ok_parts hok
  dsimp only at p3
  have hkp := key_pos hok
  dsimp only at hkp
  have hcz := ctN_size hok q ld
  have hyz := ctY_size (t := lt) (dl_size p3)
  have hfz : (fst3 (ctN (⟨key, kind, auA, auN, auc, auL, edA, edN, edc, edL, ti, co, pu, y, m, d, ci, vol, pa, cr⟩ : En) q ld) ti key).size ≤ 1048576 := fst3_size (by omega) (by omega) (by omega)
  have HX := Lib.hid (E14.new w (⟨key, kind, auA, auN, auc, auL, edA, edN, edc, edL, ti, co, pu, y, m, d, ci, vol, pa, cr⟩ : En) 58)
  have hB0 : Kp w ((w.alloc (.cells #[.string key, .int .i64 kind, .slice auA auN auc, .slice edA edN edc, .string ti, .string co, .string pu, .int .i64 y, .int .i64 m, .int .i64 d, .bool ci, .int .i64 vol, .string pa, .string cr] 58)).alloc (.cells #[.string lk, .int .i64 (q : Int), .int .i64 ld, .int .i64 lt] 53)) := kal (kal (kre _) _) _
  have hEx := HX.out.below (show Below (w.alloc (.cells #[.string key, .int .i64 kind, .slice auA auN auc, .slice edA edN edc, .string ti, .string co, .string pu, .int .i64 y, .int .i64 m, .int .i64 d, .bool ci, .int .i64 vol, .string pa, .string cr] 58)).heap.size (w.alloc (.cells #[.string key, .int .i64 kind, .slice auA auN auc, .slice edA edN edc, .string ti, .string co, .string pu, .int .i64 y, .int .i64 m, .int .i64 d, .bool ci, .int .i64 vol, .string pa, .string cr] 58)) ((w.alloc (.cells #[.string key, .int .i64 kind, .slice auA auN auc, .slice edA edN edc, .string ti, .string co, .string pu, .int .i64 y, .int .i64 m, .int .i64 d, .bool ci, .int .i64 vol, .string pa, .string cr] 58)).alloc (.cells #[.string lk, .int .i64 (q : Int), .int .i64 ld, .int .i64 lt] 53)) from (Below.refl _ _).alloc (Nat.le_refl _) _)
  obtain ⟨-, -, l0, l1, l2, l3, hs1⟩ : _ ∧ _ ∧ ((w.alloc (.cells #[.string key, .int .i64 kind, .slice auA auN auc, .slice edA edN edc, .string ti, .string co, .string pu, .int .i64 y, .int .i64 m, .int .i64 d, .bool ci, .int .i64 vol, .string pa, .string cr] 58)).alloc (.cells #[.string lk, .int .i64 (q : Int), .int .i64 ld, .int .i64 lt] 53)).cell? ⟨w.heap.size + 1, 0, none⟩ = some (.string lk) ∧ ((w.alloc (.cells #[.string key, .int .i64 kind, .slice auA auN auc, .slice edA edN edc, .string ti, .string co, .string pu, .int .i64 y, .int .i64 m, .int .i64 d, .bool ci, .int .i64 vol, .string pa, .string cr] 58)).alloc (.cells #[.string lk, .int .i64 (q : Int), .int .i64 ld, .int .i64 lt] 53)).cell? ⟨w.heap.size + 1, 1, none⟩ = some (.int .i64 (q : Int)) ∧ ((w.alloc (.cells #[.string key, .int .i64 kind, .slice auA auN auc, .slice edA edN edc, .string ti, .string co, .string pu, .int .i64 y, .int .i64 m, .int .i64 d, .bool ci, .int .i64 vol, .string pa, .string cr] 58)).alloc (.cells #[.string lk, .int .i64 (q : Int), .int .i64 ld, .int .i64 lt] 53)).cell? ⟨w.heap.size + 1, 2, none⟩ = some (.int .i64 ld) ∧ ((w.alloc (.cells #[.string key, .int .i64 kind, .slice auA auN auc, .slice edA edN edc, .string ti, .string co, .string pu, .int .i64 y, .int .i64 m, .int .i64 d, .bool ci, .int .i64 vol, .string pa, .string cr] 58)).alloc (.cells #[.string lk, .int .i64 (q : Int), .int .i64 ld, .int .i64 lt] 53)).cell? ⟨w.heap.size + 1, 3, none⟩ = some (.int .i64 lt) ∧ w.heap.size + 1 < ((w.alloc (.cells #[.string key, .int .i64 kind, .slice auA auN auc, .slice edA edN edc, .string ti, .string co, .string pu, .int .i64 y, .int .i64 m, .int .i64 d, .bool ci, .int .i64 vol, .string pa, .string cr] 58)).alloc (.cells #[.string lk, .int .i64 (q : Int), .int .i64 ld, .int .i64 lt] 53)).heap.size := ⟨trivial, trivial, by simp, by simp, by simp, by simp, by simp⟩
  have HNm := Lib.hid (fun w' (hk : Kp w w') => names_i key kind auA auN auc auL edA edN edc edL ti co pu y m d ci vol pa cr lk q ld lt w' (hr.below hk) hok hcp (by omega) (by omega) hd1 hd3 hkp)
  have HYr := Lib.hid (fun w' (hk : Kp w w') => year_i key kind auA auN auc auL edA edN edc edL ti co pu y m d ci vol pa cr lt w' p3 ht0 ht26 (ht.below hk) (hmn.below hk))
  have HE : Hid (ctS (⟨key, kind, auA, auN, auc, auL, edA, edN, edc, edL, ti, co, pu, y, m, d, ci, vol, pa, cr⟩ : En) (q : Int) ld lt = fst3 (ctN (⟨key, kind, auA, auN, auc, auL, edA, edN, edc, edL, ti, co, pu, y, m, d, ci, vol, pa, cr⟩ : En) q ld) ti key ++ (⟨#[32]⟩ : ByteArray) ++ ctY (dlT y 0 0 ci) lt) := Lib.hid rfl
  rw [HE.out]
  generalize fst3 (ctN (⟨key, kind, auA, auN, auc, auL, edA, edN, edc, edL, ti, co, pu, y, m, d, ci, vol, pa, cr⟩ : En) q ld) ti key = T at *
  generalize ctY (dlT y 0 0 ci) lt = Y at *
  clear hr hz hok hcp hw ht hmn hz' p3 hkp hn1 hn4 hd1 hd3 ht0 ht26 hcz HE HX
  have e1 : (⟨#[32]⟩ : ByteArray).size = 1 := rfl
  have hz1 : (T ++ (⟨#[32]⟩ : ByteArray)).size = T.size + 1 := by rw [ByteArray.size_append, e1]
  have hL1 : ¬ 9223372036854775807 < T.size + 1 := by omega
  have hL2 : ¬ 9223372036854775807 < T.size + 1 + Y.size := by omega
  go_enter Tryz.func54, Tryz.ntmps54
  go_upto_region 1 with fail
  generalize (w.alloc (.cells #[.string key, .int .i64 kind, .slice auA auN auc, .slice edA edN edc, .string ti, .string co, .string pu, .int .i64 y, .int .i64 m, .int .i64 d, .bool ci, .int .i64 vol, .string pa, .string cr] 58)).alloc _ = w0 at hB0 hEx l0 l1 l2 l3 hs1 ⊢
  have HS : Hid (∀ W, Kept w0 W → W.cell? ⟨w.heap.size, 0, none⟩ = some (.string key) ∧ W.cell? ⟨w.heap.size, 1, none⟩ = some (.int .i64 kind) ∧ W.cell? ⟨w.heap.size, 2, none⟩ = some (.slice auA auN auc) ∧ W.cell? ⟨w.heap.size, 3, none⟩ = some (.slice edA edN edc) ∧ W.cell? ⟨w.heap.size, 4, none⟩ = some (.string ti) ∧ W.cell? ⟨w.heap.size, 5, none⟩ = some (.string co) ∧ W.cell? ⟨w.heap.size, 6, none⟩ = some (.string pu) ∧ W.cell? ⟨w.heap.size, 7, none⟩ = some (.int .i64 y) ∧ W.cell? ⟨w.heap.size, 8, none⟩ = some (.int .i64 m) ∧ W.cell? ⟨w.heap.size, 9, none⟩ = some (.int .i64 d) ∧ W.cell? ⟨w.heap.size, 10, none⟩ = some (.bool ci) ∧ W.cell? ⟨w.heap.size, 11, none⟩ = some (.int .i64 vol) ∧ W.cell? ⟨w.heap.size, 12, none⟩ = some (.string pa) ∧ W.cell? ⟨w.heap.size, 13, none⟩ = some (.string cr) ∧ W.cell? ⟨w.heap.size + 1, 0, none⟩ = some (.string lk) ∧ W.cell? ⟨w.heap.size + 1, 1, none⟩ = some (.int .i64 (q : Int)) ∧ W.cell? ⟨w.heap.size + 1, 2, none⟩ = some (.int .i64 ld) ∧ W.cell? ⟨w.heap.size + 1, 3, none⟩ = some (.int .i64 lt) ∧ Kept w0 W) := Lib.hid (fun W h => by
    obtain ⟨hl, c0, c1, c2, c3, c4, c5, c6, c7, c8, c9, c10, c11, c12, c13⟩ := hEx.below h
    exact ⟨c0, c1, c2, c3, c4, c5, c6, c7, c8, c9, c10, c11, c12, c13, (h.cell (p := ⟨w.heap.size + 1, 0, none⟩) hs1).trans l0, (h.cell (p := ⟨w.heap.size + 1, 1, none⟩) hs1).trans l1, (h.cell (p := ⟨w.heap.size + 1, 2, none⟩) hs1).trans l2, (h.cell (p := ⟨w.heap.size + 1, 3, none⟩) hs1).trans l3, h⟩)
  have HK0 := Lib.hid (Kept.drew w0)
  clear hEx l0 l1 l2 l3 hs1
  go_region_held3 (fun W => W.cell? ⟨w.heap.size, 0, none⟩ = some (.string key) ∧ W.cell? ⟨w.heap.size, 1, none⟩ = some (.int .i64 kind) ∧ W.cell? ⟨w.heap.size, 2, none⟩ = some (.slice auA auN auc) ∧ W.cell? ⟨w.heap.size, 3, none⟩ = some (.slice edA edN edc) ∧ W.cell? ⟨w.heap.size, 4, none⟩ = some (.string ti) ∧ W.cell? ⟨w.heap.size, 5, none⟩ = some (.string co) ∧ W.cell? ⟨w.heap.size, 6, none⟩ = some (.string pu) ∧ W.cell? ⟨w.heap.size, 7, none⟩ = some (.int .i64 y) ∧ W.cell? ⟨w.heap.size, 8, none⟩ = some (.int .i64 m) ∧ W.cell? ⟨w.heap.size, 9, none⟩ = some (.int .i64 d) ∧ W.cell? ⟨w.heap.size, 10, none⟩ = some (.bool ci) ∧ W.cell? ⟨w.heap.size, 11, none⟩ = some (.int .i64 vol) ∧ W.cell? ⟨w.heap.size, 12, none⟩ = some (.string pa) ∧ W.cell? ⟨w.heap.size, 13, none⟩ = some (.string cr) ∧ W.cell? ⟨w.heap.size + 1, 0, none⟩ = some (.string lk) ∧ W.cell? ⟨w.heap.size + 1, 1, none⟩ = some (.int .i64 (q : Int)) ∧ W.cell? ⟨w.heap.size + 1, 2, none⟩ = some (.int .i64 ld) ∧ W.cell? ⟨w.heap.size + 1, 3, none⟩ = some (.int .i64 lt) ∧ Kept w0 W)
    (first | exact HS.out _ HK0.out | exact HS.out _ (by assumption))
    (first
      | (go_at_call 78; refine (HYr.out _ (ktr hB0 hk7)).mono ?_; rintro e w8 ⟨rfl, b8⟩; have hk8 : Kept w0 w8 := Kept.next hk7 b8)
      | (go_at_call 77; refine (HNm.out _ (ktr hB0 HK0.out)).mono ?_; rintro e w7 ⟨rfl, b7⟩; have hk7 : Kept w0 w7 := Kept.next HK0.out b7))
  go_wp2_with fail
  go_ret
  exact ⟨rfl, ktr hB0 hk8⟩

end Go.Proofs.YteccmlpibbchbaaGreatDoor.Cit
/-
  The text of a citation: the model.
-/
namespace Go.Proofs.YteccmlpibbchbaaGreatDoor.Cit
open Go.RowKit Pl Strs Help Name Stands SplitPl NmPl Word Part NGood Forms Cut IniPl Ini Nms Jn Ens Lab Kpz Ce Rdf LdPl
open Cmp (ok_small)
open Num (Tab Tab.below)
set_option linter.unusedSimpArgs false
set_option linter.unusedVariables false


def abc : ByteArray := ⟨#[97, 98, 99, 100, 101, 102, 103, 104, 105, 106, 107, 108, 109, 110, 111, 112, 113, 114, 115, 116, 117, 118, 119, 120, 121, 122]⟩
theorem abc_at : ∀ v : Fin 26, abc.extract v.val (v.val + 1) = ltT ((v.val + 1 : Nat) : Int) := by decide +kernel

set_option maxRecDepth 100000 in
set_option maxHeartbeats 16000000 in
theorem text_s (key : ByteArray) (kind : Int) (auA : Option Addr) (auN : Nat) (auc : Nat) (auL : List Nm) (edA : Option Addr) (edN : Nat) (edc : Nat) (edL : List Nm) (ti : ByteArray) (co : ByteArray) (pu : ByteArray) (y : Int) (m : Int) (d : Int) (ci : Bool) (vol : Int) (pa : ByteArray) (cr : ByteArray) (lk : ByteArray) (ln ld lt : Int) (w : World) (hr : (⟨key, kind, auA, auN, auc, auL, edA, edN, edc, edL, ti, co, pu, y, m, d, ci, vol, pa, cr⟩ : En).Rd w) (hz : (⟨key, kind, auA, auN, auc, auL, edA, edN, edc, edL, ti, co, pu, y, m, d, ci, vol, pa, cr⟩ : En).sz ≤ 1048576) (hok : okE (⟨key, kind, auA, auN, auc, auL, edA, edN, edc, edL, ti, co, pu, y, m, d, ci, vol, pa, cr⟩ : En) = true) (hw : wrt ln ld lt = true) :
    Calls Tryz.prog 49 #[.agg #[.string key, .int .i64 kind, .slice auA auN auc, .slice edA edN edc, .string ti, .string co, .string pu, .int .i64 y, .int .i64 m, .int .i64 d, .bool ci, .int .i64 vol, .string pa, .string cr], lbV lk ln ld lt] w fun e w' => e = .returned (.string (ctS (⟨key, kind, auA, auN, auc, auL, edA, edN, edc, edL, ti, co, pu, y, m, d, ci, vol, pa, cr⟩ : En) ln ld lt)) ∧ Below w.heap.size w w' := by
  obtain ⟨mA, mN, mc, hm⟩ := main_pick (⟨key, kind, auA, auN, auc, auL, edA, edN, edc, edL, ti, co, pu, y, m, d, ci, vol, pa, cr⟩ : En)
  obtain ⟨hmr, hml⟩ := main_rd hr hm
  obtain ⟨hm4, hmo⟩ := main_ok hok
  obtain ⟨⟨hn1, hn4⟩, ⟨hd1, hd3⟩, ht0, ht26⟩ := wrt_parts hw
  obtain ⟨q, rfl⟩ := Int.eq_ofNat_of_zero_le (show 0 ≤ ln by omega)
  have hz' : key.size + (auN + szL auL) + (edN + szL edL) + ti.size + co.size + pu.size + pa.size + cr.size ≤ 1048576 := hz
  obtain ⟨-, -, p3⟩ := ok_parts hok
  dsimp only at p3
  have hkp := key_pos hok
  dsimp only at hkp
  have hcz := ctN_size hok q ld
  have hyz := ctY_size (t := lt) (dl_size p3)
  have hfz : (fst3 (ctN (⟨key, kind, auA, auN, auc, auL, edA, edN, edc, edL, ti, co, pu, y, m, d, ci, vol, pa, cr⟩ : En) q ld) ti key).size ≤ 1048576 := fst3_size (by omega) (by omega) (by omega)
  have HX := Lib.hid (E14.new w (⟨key, kind, auA, auN, auc, auL, edA, edN, edc, edL, ti, co, pu, y, m, d, ci, vol, pa, cr⟩ : En) 58)
  have hB0 : Kp w ((w.alloc (.cells #[.string key, .int .i64 kind, .slice auA auN auc, .slice edA edN edc, .string ti, .string co, .string pu, .int .i64 y, .int .i64 m, .int .i64 d, .bool ci, .int .i64 vol, .string pa, .string cr] 58)).alloc (.cells #[.string lk, .int .i64 (q : Int), .int .i64 ld, .int .i64 lt] 53)) := kal (kal (kre _) _) _
  have hEx := HX.out.below (show Below (w.alloc (.cells #[.string key, .int .i64 kind, .slice auA auN auc, .slice edA edN edc, .string ti, .string co, .string pu, .int .i64 y, .int .i64 m, .int .i64 d, .bool ci, .int .i64 vol, .string pa, .string cr] 58)).heap.size (w.alloc (.cells #[.string key, .int .i64 kind, .slice auA auN auc, .slice edA edN edc, .string ti, .string co, .string pu, .int .i64 y, .int .i64 m, .int .i64 d, .bool ci, .int .i64 vol, .string pa, .string cr] 58)) ((w.alloc (.cells #[.string key, .int .i64 kind, .slice auA auN auc, .slice edA edN edc, .string ti, .string co, .string pu, .int .i64 y, .int .i64 m, .int .i64 d, .bool ci, .int .i64 vol, .string pa, .string cr] 58)).alloc (.cells #[.string lk, .int .i64 (q : Int), .int .i64 ld, .int .i64 lt] 53)) from (Below.refl _ _).alloc (Nat.le_refl _) _)
  obtain ⟨-, -, l0, l1, l2, l3, hs1⟩ : _ ∧ _ ∧ ((w.alloc (.cells #[.string key, .int .i64 kind, .slice auA auN auc, .slice edA edN edc, .string ti, .string co, .string pu, .int .i64 y, .int .i64 m, .int .i64 d, .bool ci, .int .i64 vol, .string pa, .string cr] 58)).alloc (.cells #[.string lk, .int .i64 (q : Int), .int .i64 ld, .int .i64 lt] 53)).cell? ⟨w.heap.size + 1, 0, none⟩ = some (.string lk) ∧ ((w.alloc (.cells #[.string key, .int .i64 kind, .slice auA auN auc, .slice edA edN edc, .string ti, .string co, .string pu, .int .i64 y, .int .i64 m, .int .i64 d, .bool ci, .int .i64 vol, .string pa, .string cr] 58)).alloc (.cells #[.string lk, .int .i64 (q : Int), .int .i64 ld, .int .i64 lt] 53)).cell? ⟨w.heap.size + 1, 1, none⟩ = some (.int .i64 (q : Int)) ∧ ((w.alloc (.cells #[.string key, .int .i64 kind, .slice auA auN auc, .slice edA edN edc, .string ti, .string co, .string pu, .int .i64 y, .int .i64 m, .int .i64 d, .bool ci, .int .i64 vol, .string pa, .string cr] 58)).alloc (.cells #[.string lk, .int .i64 (q : Int), .int .i64 ld, .int .i64 lt] 53)).cell? ⟨w.heap.size + 1, 2, none⟩ = some (.int .i64 ld) ∧ ((w.alloc (.cells #[.string key, .int .i64 kind, .slice auA auN auc, .slice edA edN edc, .string ti, .string co, .string pu, .int .i64 y, .int .i64 m, .int .i64 d, .bool ci, .int .i64 vol, .string pa, .string cr] 58)).alloc (.cells #[.string lk, .int .i64 (q : Int), .int .i64 ld, .int .i64 lt] 53)).cell? ⟨w.heap.size + 1, 3, none⟩ = some (.int .i64 lt) ∧ w.heap.size + 1 < ((w.alloc (.cells #[.string key, .int .i64 kind, .slice auA auN auc, .slice edA edN edc, .string ti, .string co, .string pu, .int .i64 y, .int .i64 m, .int .i64 d, .bool ci, .int .i64 vol, .string pa, .string cr] 58)).alloc (.cells #[.string lk, .int .i64 (q : Int), .int .i64 ld, .int .i64 lt] 53)).heap.size := ⟨trivial, trivial, by simp, by simp, by simp, by simp, by simp⟩
  have HMi := Lib.hid (fun w => main_s key kind auA auN auc auL edA edN edc edL ti co pu y m d ci vol pa cr mA mN mc w hm)
  have HNm := Lib.hid (fun w' (hk : Kp w w') => cnames_s mA mc mN q ld (mainL (⟨key, kind, auA, auN, auc, auL, edA, edN, edc, edL, ti, co, pu, y, m, d, ci, vol, pa, cr⟩ : En)) w' (hmr.below hk) hml (by omega) (by omega) hmo hd1 hd3)
  have HYr := Lib.hid (fun w' => year_s y m d ci w' p3)
  have hDs := dl_size p3
  have HE : Hid (ctS (⟨key, kind, auA, auN, auc, auL, edA, edN, edc, edL, ti, co, pu, y, m, d, ci, vol, pa, cr⟩ : En) (q : Int) ld lt = fst3 (ctN (⟨key, kind, auA, auN, auc, auL, edA, edN, edc, edL, ti, co, pu, y, m, d, ci, vol, pa, cr⟩ : En) q ld) ti key ++ (⟨#[32]⟩ : ByteArray) ++ ctY (dlT y 0 0 ci) lt) := Lib.hid rfl
  rw [HE.out]
  rw [show ba (jnB (ls (cfs ld (mainL (⟨key, kind, auA, auN, auc, auL, edA, edN, edc, edL, ti, co, pu, y, m, d, ci, vol, pa, cr⟩ : En)))) q) = ctN (⟨key, kind, auA, auN, auc, auL, edA, edN, edc, edL, ti, co, pu, y, m, d, ci, vol, pa, cr⟩ : En) q ld from rfl] at HNm
  generalize ctN (⟨key, kind, auA, auN, auc, auL, edA, edN, edc, edL, ti, co, pu, y, m, d, ci, vol, pa, cr⟩ : En) q ld = T at *
  generalize dlT y 0 0 ci = D at *
  generalize hR : fst3 T ti key ++ (⟨#[32]⟩ : ByteArray) ++ ctY D lt = R
  have HRr := Lib.hid hR
  clear hR
  clear hr hz hok hw p3 hn1 hn4 hd1 hd3 HX HE hmr hml hm4 hmo hm
  have e1 : (⟨#[32]⟩ : ByteArray).size = 1 := rfl
  go_enter Tryz.func49, Tryz.ntmps49
  go_upto_region 1 with fail
  generalize (w.alloc (.cells #[.string key, .int .i64 kind, .slice auA auN auc, .slice edA edN edc, .string ti, .string co, .string pu, .int .i64 y, .int .i64 m, .int .i64 d, .bool ci, .int .i64 vol, .string pa, .string cr] 58)).alloc _ = w0 at hB0 hEx l0 l1 l2 l3 hs1 ⊢
  have HS : Hid (∀ W, Kept w0 W → W.cell? ⟨w.heap.size, 0, none⟩ = some (.string key) ∧ W.cell? ⟨w.heap.size, 1, none⟩ = some (.int .i64 kind) ∧ W.cell? ⟨w.heap.size, 2, none⟩ = some (.slice auA auN auc) ∧ W.cell? ⟨w.heap.size, 3, none⟩ = some (.slice edA edN edc) ∧ W.cell? ⟨w.heap.size, 4, none⟩ = some (.string ti) ∧ W.cell? ⟨w.heap.size, 5, none⟩ = some (.string co) ∧ W.cell? ⟨w.heap.size, 6, none⟩ = some (.string pu) ∧ W.cell? ⟨w.heap.size, 7, none⟩ = some (.int .i64 y) ∧ W.cell? ⟨w.heap.size, 8, none⟩ = some (.int .i64 m) ∧ W.cell? ⟨w.heap.size, 9, none⟩ = some (.int .i64 d) ∧ W.cell? ⟨w.heap.size, 10, none⟩ = some (.bool ci) ∧ W.cell? ⟨w.heap.size, 11, none⟩ = some (.int .i64 vol) ∧ W.cell? ⟨w.heap.size, 12, none⟩ = some (.string pa) ∧ W.cell? ⟨w.heap.size, 13, none⟩ = some (.string cr) ∧ W.cell? ⟨w.heap.size + 1, 0, none⟩ = some (.string lk) ∧ W.cell? ⟨w.heap.size + 1, 1, none⟩ = some (.int .i64 (q : Int)) ∧ W.cell? ⟨w.heap.size + 1, 2, none⟩ = some (.int .i64 ld) ∧ W.cell? ⟨w.heap.size + 1, 3, none⟩ = some (.int .i64 lt) ∧ Kept w0 W) := Lib.hid (fun W h => by
    obtain ⟨hl, c0, c1, c2, c3, c4, c5, c6, c7, c8, c9, c10, c11, c12, c13⟩ := hEx.below h
    exact ⟨c0, c1, c2, c3, c4, c5, c6, c7, c8, c9, c10, c11, c12, c13, (h.cell (p := ⟨w.heap.size + 1, 0, none⟩) hs1).trans l0, (h.cell (p := ⟨w.heap.size + 1, 1, none⟩) hs1).trans l1, (h.cell (p := ⟨w.heap.size + 1, 2, none⟩) hs1).trans l2, (h.cell (p := ⟨w.heap.size + 1, 3, none⟩) hs1).trans l3, h⟩)
  have HK0 := Lib.hid (Kept.drew w0)
  clear hEx l0 l1 l2 l3 hs1
  go_region_held3 (fun W => W.cell? ⟨w.heap.size, 0, none⟩ = some (.string key) ∧ W.cell? ⟨w.heap.size, 1, none⟩ = some (.int .i64 kind) ∧ W.cell? ⟨w.heap.size, 2, none⟩ = some (.slice auA auN auc) ∧ W.cell? ⟨w.heap.size, 3, none⟩ = some (.slice edA edN edc) ∧ W.cell? ⟨w.heap.size, 4, none⟩ = some (.string ti) ∧ W.cell? ⟨w.heap.size, 5, none⟩ = some (.string co) ∧ W.cell? ⟨w.heap.size, 6, none⟩ = some (.string pu) ∧ W.cell? ⟨w.heap.size, 7, none⟩ = some (.int .i64 y) ∧ W.cell? ⟨w.heap.size, 8, none⟩ = some (.int .i64 m) ∧ W.cell? ⟨w.heap.size, 9, none⟩ = some (.int .i64 d) ∧ W.cell? ⟨w.heap.size, 10, none⟩ = some (.bool ci) ∧ W.cell? ⟨w.heap.size, 11, none⟩ = some (.int .i64 vol) ∧ W.cell? ⟨w.heap.size, 12, none⟩ = some (.string pa) ∧ W.cell? ⟨w.heap.size, 13, none⟩ = some (.string cr) ∧ W.cell? ⟨w.heap.size + 1, 0, none⟩ = some (.string lk) ∧ W.cell? ⟨w.heap.size + 1, 1, none⟩ = some (.int .i64 (q : Int)) ∧ W.cell? ⟨w.heap.size + 1, 2, none⟩ = some (.int .i64 ld) ∧ W.cell? ⟨w.heap.size + 1, 3, none⟩ = some (.int .i64 lt) ∧ Kept w0 W)
    (first | exact HS.out _ HK0.out | exact HS.out _ (by assumption))
    (first
      | (go_at_call 67; refine (HNm.out _ (ktr hB0 hk7)).mono ?_; rintro e w8 ⟨rfl, b8⟩; have hk8 : Kept w0 w8 := Kept.next hk7 b8)
      | (go_at_call 68; refine (HMi.out _).mono ?_; rintro e w7 ⟨rfl, b7⟩; have hk7 : Kept w0 w7 := Kept.next HK0.out b7))
  (try clear hHeld)
  obtain ⟨c0, c1, c2, c3, c4, c5, c6, c7, c8, c9, c10, c11, c12, c13, l0, l1, l2, l3, -⟩ := HS.out _ hk8
  have HS8 : Hid (∀ W, Kept w8 W → W.cell? ⟨w.heap.size, 0, none⟩ = some (.string key) ∧ W.cell? ⟨w.heap.size, 1, none⟩ = some (.int .i64 kind) ∧ W.cell? ⟨w.heap.size, 2, none⟩ = some (.slice auA auN auc) ∧ W.cell? ⟨w.heap.size, 3, none⟩ = some (.slice edA edN edc) ∧ W.cell? ⟨w.heap.size, 4, none⟩ = some (.string ti) ∧ W.cell? ⟨w.heap.size, 5, none⟩ = some (.string co) ∧ W.cell? ⟨w.heap.size, 6, none⟩ = some (.string pu) ∧ W.cell? ⟨w.heap.size, 7, none⟩ = some (.int .i64 y) ∧ W.cell? ⟨w.heap.size, 8, none⟩ = some (.int .i64 m) ∧ W.cell? ⟨w.heap.size, 9, none⟩ = some (.int .i64 d) ∧ W.cell? ⟨w.heap.size, 10, none⟩ = some (.bool ci) ∧ W.cell? ⟨w.heap.size, 11, none⟩ = some (.int .i64 vol) ∧ W.cell? ⟨w.heap.size, 12, none⟩ = some (.string pa) ∧ W.cell? ⟨w.heap.size, 13, none⟩ = some (.string cr) ∧ W.cell? ⟨w.heap.size + 1, 0, none⟩ = some (.string lk) ∧ W.cell? ⟨w.heap.size + 1, 1, none⟩ = some (.int .i64 (q : Int)) ∧ W.cell? ⟨w.heap.size + 1, 2, none⟩ = some (.int .i64 ld) ∧ W.cell? ⟨w.heap.size + 1, 3, none⟩ = some (.int .i64 lt)) := Lib.hid (fun W h => by
    obtain ⟨c0, c1, c2, c3, c4, c5, c6, c7, c8, c9, c10, c11, c12, c13, l0, l1, l2, l3, -⟩ := HS.out W (ktr hk8 h)
    exact ⟨c0, c1, c2, c3, c4, c5, c6, c7, c8, c9, c10, c11, c12, c13, l0, l1, l2, l3⟩)
  have hk : Kp w w8 := ktr hB0 hk8
  clear hk8 hk7 HK0 HS HMi HNm hB0
  clear hyz
  by_cases h1 : 0 < T.size
  · obtain ⟨x1, x2⟩ := ne_str h1
    have hF : fst3 T ti key = T := if_pos h1
    rw [hF] at hfz HRr
    clear h1 hF
    have hz1 : (T ++ (⟨#[32]⟩ : ByteArray)).size = T.size + 1 := by rw [ByteArray.size_append, e1]
    go_wp2_with fail
    refine (HYr.out _).mono ?_
    rintro e w9 ⟨rfl, b9⟩
    have hk9 : Kp w w9 := ktr hk b9
    clear c0 c1 c2 c3 c4 c5 c6 c7 c8 c9 c10 c11 c12 c13 l0 l1 l2 l3
    obtain ⟨c0, c1, c2, c3, c4, c5, c6, c7, c8, c9, c10, c11, c12, c13, l0, l1, l2, l3⟩ := HS8.out _ b9
    unfold ctY at HRr
    by_cases hD : 0 < D.size
    · obtain ⟨y1, y2⟩ := ne_str hD
      rw [if_pos hD] at HRr
      clear hD
      by_cases hl : lt = 0
      · subst hl
        rw [if_pos rfl] at HRr
        go_wp2_with fail
        go_ret
        exact ⟨by rw [← HRr.out]; rfl, hk9⟩
      · rw [if_neg hl] at HRr
        obtain ⟨v, hv, rfl⟩ : ∃ v : Nat, v < 26 ∧ lt = ((v + 1 : Nat) : Int) := ⟨(lt - 1).toNat, by omega, by omega⟩
        have HA := Lib.hid (abc_at ⟨v, hv⟩)
        have hp : decide ((0 : Int) < ((v + 1 : Nat) : Int)) = true := decide_eq_true (by omega)
        have hsb : ((v + 1 : Nat) : Int) - 1 = (v : Int) := by omega
        have hex : (abc.extract v (v + 1)).size = 1 := by rw [HA.out]; rfl
        have hzD : (D ++ abc.extract v (v + 1)).size = D.size + 1 := by rw [ByteArray.size_append, hex]
        have hk0 : (0 : Int) ≤ (v : Int) + 1 := by omega
        have hk1 : ((v : Int) + 1).toNat = v + 1 := by omega
        have hk2 : (v : Int) + 1 ≤ 26 := by omega
        have hk3 : v + 1 ≤ 26 := by omega
        have hk4 : (v : Int) ≤ (v : Int) + 1 := by omega
        have hk5 : v ≤ v + 1 := by omega
        have hk6 : (0 : Int) ≤ (v : Int) := by omega
        have hk7 : (ByteArray.mk #[97, 98, 99, 100, 101, 102, 103, 104, 105, 106, 107, 108, 109, 110, 111, 112, 113, 114, 115, 116, 117, 118, 119, 120, 121, 122]).size = 26 := rfl
        unfold abc at hex hzD HA
        clear hl
        go_wp2_with fail
        go_ret
        exact ⟨by rw [← HRr.out, ← HA.out]; rfl, hk9⟩
    · rw [if_neg hD] at HRr
      obtain rfl := nil_str hD
      clear hD
      by_cases hl : lt = 0
      · subst hl
        rw [if_pos rfl] at HRr
        unfold ndT at HRr
        go_wp2_with fail
        go_ret
        exact ⟨by rw [← HRr.out]; rfl, hk9⟩
      · rw [if_neg hl] at HRr
        obtain ⟨v, hv, rfl⟩ : ∃ v : Nat, v < 26 ∧ lt = ((v + 1 : Nat) : Int) := ⟨(lt - 1).toNat, by omega, by omega⟩
        have HA := Lib.hid (abc_at ⟨v, hv⟩)
        have hp : decide ((0 : Int) < ((v + 1 : Nat) : Int)) = true := decide_eq_true (by omega)
        have hsb : ((v + 1 : Nat) : Int) - 1 = (v : Int) := by omega
        have hex : (abc.extract v (v + 1)).size = 1 := by rw [HA.out]; rfl
        have hzD : ((⟨#[110, 46, 100, 46, 45]⟩ : ByteArray) ++ abc.extract v (v + 1)).size = 6 := by rw [ByteArray.size_append, hex]; rfl
        have hk0 : (0 : Int) ≤ (v : Int) + 1 := by omega
        have hk1 : ((v : Int) + 1).toNat = v + 1 := by omega
        have hk2 : (v : Int) + 1 ≤ 26 := by omega
        have hk3 : v + 1 ≤ 26 := by omega
        have hk4 : (v : Int) ≤ (v : Int) + 1 := by omega
        have hk5 : v ≤ v + 1 := by omega
        have hk6 : (0 : Int) ≤ (v : Int) := by omega
        have hk7 : (ByteArray.mk #[97, 98, 99, 100, 101, 102, 103, 104, 105, 106, 107, 108, 109, 110, 111, 112, 113, 114, 115, 116, 117, 118, 119, 120, 121, 122]).size = 26 := rfl
        unfold abc at hex hzD HA
        clear hl
        go_wp2_with fail
        go_ret
        exact ⟨by rw [← HRr.out, ← HA.out]; rfl, hk9⟩
  · obtain rfl := nil_str h1
    clear h1
    by_cases h2 : 0 < ti.size
    · obtain ⟨x1, x2⟩ := ne_str h2
      have hF : fst3 ⟨#[]⟩ ti key = ti := by unfold fst3; rw [if_neg (by decide), if_pos h2]
      rw [hF] at hfz HRr
      clear h2 hF
      have hz1 : (ti ++ (⟨#[32]⟩ : ByteArray)).size = ti.size + 1 := by rw [ByteArray.size_append, e1]
      go_wp2_with fail
      refine (HYr.out _).mono ?_
      rintro e w9 ⟨rfl, b9⟩
      have hk9 : Kp w w9 := ktr hk b9
      clear c0 c1 c2 c3 c4 c5 c6 c7 c8 c9 c10 c11 c12 c13 l0 l1 l2 l3
      obtain ⟨c0, c1, c2, c3, c4, c5, c6, c7, c8, c9, c10, c11, c12, c13, l0, l1, l2, l3⟩ := HS8.out _ b9
      unfold ctY at HRr
      by_cases hD : 0 < D.size
      · obtain ⟨y1, y2⟩ := ne_str hD
        rw [if_pos hD] at HRr
        clear hD
        by_cases hl : lt = 0
        · subst hl
          rw [if_pos rfl] at HRr
          go_wp2_with fail
          go_ret
          exact ⟨by rw [← HRr.out]; rfl, hk9⟩
        · rw [if_neg hl] at HRr
          obtain ⟨v, hv, rfl⟩ : ∃ v : Nat, v < 26 ∧ lt = ((v + 1 : Nat) : Int) := ⟨(lt - 1).toNat, by omega, by omega⟩
          have HA := Lib.hid (abc_at ⟨v, hv⟩)
          have hp : decide ((0 : Int) < ((v + 1 : Nat) : Int)) = true := decide_eq_true (by omega)
          have hsb : ((v + 1 : Nat) : Int) - 1 = (v : Int) := by omega
          have hex : (abc.extract v (v + 1)).size = 1 := by rw [HA.out]; rfl
          have hzD : (D ++ abc.extract v (v + 1)).size = D.size + 1 := by rw [ByteArray.size_append, hex]
          have hk0 : (0 : Int) ≤ (v : Int) + 1 := by omega
          have hk1 : ((v : Int) + 1).toNat = v + 1 := by omega
          have hk2 : (v : Int) + 1 ≤ 26 := by omega
          have hk3 : v + 1 ≤ 26 := by omega
          have hk4 : (v : Int) ≤ (v : Int) + 1 := by omega
          have hk5 : v ≤ v + 1 := by omega
          have hk6 : (0 : Int) ≤ (v : Int) := by omega
          have hk7 : (ByteArray.mk #[97, 98, 99, 100, 101, 102, 103, 104, 105, 106, 107, 108, 109, 110, 111, 112, 113, 114, 115, 116, 117, 118, 119, 120, 121, 122]).size = 26 := rfl
          unfold abc at hex hzD HA
          clear hl
          go_wp2_with fail
          go_ret
          exact ⟨by rw [← HRr.out, ← HA.out]; rfl, hk9⟩
      · rw [if_neg hD] at HRr
        obtain rfl := nil_str hD
        clear hD
        by_cases hl : lt = 0
        · subst hl
          rw [if_pos rfl] at HRr
          unfold ndT at HRr
          go_wp2_with fail
          go_ret
          exact ⟨by rw [← HRr.out]; rfl, hk9⟩
        · rw [if_neg hl] at HRr
          obtain ⟨v, hv, rfl⟩ : ∃ v : Nat, v < 26 ∧ lt = ((v + 1 : Nat) : Int) := ⟨(lt - 1).toNat, by omega, by omega⟩
          have HA := Lib.hid (abc_at ⟨v, hv⟩)
          have hp : decide ((0 : Int) < ((v + 1 : Nat) : Int)) = true := decide_eq_true (by omega)
          have hsb : ((v + 1 : Nat) : Int) - 1 = (v : Int) := by omega
          have hex : (abc.extract v (v + 1)).size = 1 := by rw [HA.out]; rfl
          have hzD : ((⟨#[110, 46, 100, 46, 45]⟩ : ByteArray) ++ abc.extract v (v + 1)).size = 6 := by rw [ByteArray.size_append, hex]; rfl
          have hk0 : (0 : Int) ≤ (v : Int) + 1 := by omega
          have hk1 : ((v : Int) + 1).toNat = v + 1 := by omega
          have hk2 : (v : Int) + 1 ≤ 26 := by omega
          have hk3 : v + 1 ≤ 26 := by omega
          have hk4 : (v : Int) ≤ (v : Int) + 1 := by omega
          have hk5 : v ≤ v + 1 := by omega
          have hk6 : (0 : Int) ≤ (v : Int) := by omega
          have hk7 : (ByteArray.mk #[97, 98, 99, 100, 101, 102, 103, 104, 105, 106, 107, 108, 109, 110, 111, 112, 113, 114, 115, 116, 117, 118, 119, 120, 121, 122]).size = 26 := rfl
          unfold abc at hex hzD HA
          clear hl
          go_wp2_with fail
          go_ret
          exact ⟨by rw [← HRr.out, ← HA.out]; rfl, hk9⟩
    · obtain rfl := nil_str h2
      have hF : fst3 ⟨#[]⟩ ⟨#[]⟩ key = key := by unfold fst3; rw [if_neg (by decide), if_neg (by decide)]
      rw [hF] at hfz HRr
      clear h2 hF
      have hz1 : (key ++ (⟨#[32]⟩ : ByteArray)).size = key.size + 1 := by rw [ByteArray.size_append, e1]
      go_wp2_with fail
      refine (HYr.out _).mono ?_
      rintro e w9 ⟨rfl, b9⟩
      have hk9 : Kp w w9 := ktr hk b9
      clear c0 c1 c2 c3 c4 c5 c6 c7 c8 c9 c10 c11 c12 c13 l0 l1 l2 l3
      obtain ⟨c0, c1, c2, c3, c4, c5, c6, c7, c8, c9, c10, c11, c12, c13, l0, l1, l2, l3⟩ := HS8.out _ b9
      unfold ctY at HRr
      by_cases hD : 0 < D.size
      · obtain ⟨y1, y2⟩ := ne_str hD
        rw [if_pos hD] at HRr
        clear hD
        by_cases hl : lt = 0
        · subst hl
          rw [if_pos rfl] at HRr
          go_wp2_with fail
          go_ret
          exact ⟨by rw [← HRr.out]; rfl, hk9⟩
        · rw [if_neg hl] at HRr
          obtain ⟨v, hv, rfl⟩ : ∃ v : Nat, v < 26 ∧ lt = ((v + 1 : Nat) : Int) := ⟨(lt - 1).toNat, by omega, by omega⟩
          have HA := Lib.hid (abc_at ⟨v, hv⟩)
          have hp : decide ((0 : Int) < ((v + 1 : Nat) : Int)) = true := decide_eq_true (by omega)
          have hsb : ((v + 1 : Nat) : Int) - 1 = (v : Int) := by omega
          have hex : (abc.extract v (v + 1)).size = 1 := by rw [HA.out]; rfl
          have hzD : (D ++ abc.extract v (v + 1)).size = D.size + 1 := by rw [ByteArray.size_append, hex]
          have hk0 : (0 : Int) ≤ (v : Int) + 1 := by omega
          have hk1 : ((v : Int) + 1).toNat = v + 1 := by omega
          have hk2 : (v : Int) + 1 ≤ 26 := by omega
          have hk3 : v + 1 ≤ 26 := by omega
          have hk4 : (v : Int) ≤ (v : Int) + 1 := by omega
          have hk5 : v ≤ v + 1 := by omega
          have hk6 : (0 : Int) ≤ (v : Int) := by omega
          have hk7 : (ByteArray.mk #[97, 98, 99, 100, 101, 102, 103, 104, 105, 106, 107, 108, 109, 110, 111, 112, 113, 114, 115, 116, 117, 118, 119, 120, 121, 122]).size = 26 := rfl
          unfold abc at hex hzD HA
          clear hl
          go_wp2_with fail
          go_ret
          exact ⟨by rw [← HRr.out, ← HA.out]; rfl, hk9⟩
      · rw [if_neg hD] at HRr
        obtain rfl := nil_str hD
        clear hD
        by_cases hl : lt = 0
        · subst hl
          rw [if_pos rfl] at HRr
          unfold ndT at HRr
          go_wp2_with fail
          go_ret
          exact ⟨by rw [← HRr.out]; rfl, hk9⟩
        · rw [if_neg hl] at HRr
          obtain ⟨v, hv, rfl⟩ : ∃ v : Nat, v < 26 ∧ lt = ((v + 1 : Nat) : Int) := ⟨(lt - 1).toNat, by omega, by omega⟩
          have HA := Lib.hid (abc_at ⟨v, hv⟩)
          have hp : decide ((0 : Int) < ((v + 1 : Nat) : Int)) = true := decide_eq_true (by omega)
          have hsb : ((v + 1 : Nat) : Int) - 1 = (v : Int) := by omega
          have hex : (abc.extract v (v + 1)).size = 1 := by rw [HA.out]; rfl
          have hzD : ((⟨#[110, 46, 100, 46, 45]⟩ : ByteArray) ++ abc.extract v (v + 1)).size = 6 := by rw [ByteArray.size_append, hex]; rfl
          have hk0 : (0 : Int) ≤ (v : Int) + 1 := by omega
          have hk1 : ((v : Int) + 1).toNat = v + 1 := by omega
          have hk2 : (v : Int) + 1 ≤ 26 := by omega
          have hk3 : v + 1 ≤ 26 := by omega
          have hk4 : (v : Int) ≤ (v : Int) + 1 := by omega
          have hk5 : v ≤ v + 1 := by omega
          have hk6 : (0 : Int) ≤ (v : Int) := by omega
          have hk7 : (ByteArray.mk #[97, 98, 99, 100, 101, 102, 103, 104, 105, 106, 107, 108, 109, 110, 111, 112, 113, 114, 115, 116, 117, 118, 119, 120, 121, 122]).size = 26 := rfl
          unfold abc at hex hzD HA
          clear hl
          go_wp2_with fail
          go_ret
          exact ⟨by rw [← HRr.out, ← HA.out]; rfl, hk9⟩

end Go.Proofs.YteccmlpibbchbaaGreatDoor.Cit
/-
  CitationText of both.
-/
namespace Go.Proofs.YteccmlpibbchbaaGreatDoor.Cit
open Go.RowKit Pl Strs Help Name Stands SplitPl NmPl Word Part NGood Forms Cut IniPl Ini Nms Jn Ens Lab Kpz Ce Rdf LdPl Lbs
open Cmp (ok_small)
open Num (Tab Tab.below)
set_option linter.unusedSimpArgs false
set_option linter.unusedVariables false


/-- the text that CitationText answers -/
def ctT (L : List En) (k : ByteArray) (n d t : Int) : ByteArray := if okLab L k n d t = true then (match L[(fnd L k 0).toNat]? with | some x => ctS x n d t | none => ⟨#[]⟩) else ⟨#[]⟩
/-- the names of the entries have room for their words -/
def Cap (L : List En) : Prop := ∀ x ∈ L, ∀ y ∈ mainL x, y.n ≤ y.c
theorem cap_of {W : World} {g : Nat} {M : List En} (h : FrE W g M) : Cap M := by
  intro x hx y hy
  obtain ⟨g2, g3, h1, h2, h3, h4, h5, h6, h7, h8⟩ := h.2.1 x hx
  unfold mainL at hy
  split at hy
  · exact (h5.2.1 y hy).2.1
  · exact (h6.2.1 y hy).2.1
theorem mainL_len {x : En} {w : World} (h : x.Rd w) : mainL x = if 0 < x.auL.length then x.auL else x.edL := by
  unfold mainL
  rw [h.2.1]
theorem cfs_kk {L M : List Nm} (d : Int) (h : L.map Nm.key = M.map Nm.key) : cfs d L = cfs d M := by
  have e : ∀ K : List Nm, cfs d K = (K.map Nm.key).map fun k => ba (if d = 2 then shortL k.1 k.2.1 k.2.2.1 k.2.2.2 else if d = 3 then fullL k.1 k.2.1 k.2.2.1 k.2.2.2 else jn (ls [k.2.1, k.2.2.1])) := fun K => by
    unfold cfs
    rw [List.map_map]
    rfl
  rw [e, e, h]
theorem ctS_kk {x y : En} {w w' : World} (hx : x.Rd w) (hy : y.Rd w') (h : x.key4 = y.key4) (n d t : Int) : ctS x n d t = ctS y n d t := by
  have hm : cfs d (mainL x) = cfs d (mainL y) := by
    rw [mainL_len hx, mainL_len hy]
    unfold En.key4 at h
    simp only [Prod.mk.injEq] at h
    have e1 : x.auL.length = y.auL.length := by have := congrArg List.length h.2.2.1; simpa using this
    rw [e1]
    split
    · exact cfs_kk d h.2.2.1
    · exact cfs_kk d h.2.2.2.1
  unfold ctS ctN
  rw [hm]
  unfold En.key4 at h
  simp only [Prod.mk.injEq] at h
  obtain ⟨h0, -, -, -, h4, -, -, ⟨h7, -, -, h10⟩, -⟩ := h
  rw [h0, h4, h7, h10]
theorem at_k {L M : List En} (h : L.map En.key4 = M.map En.key4) {j : Nat} {x : En} (hx : L[j]? = some x) : ∃ y, M[j]? = some y ∧ x.key4 = y.key4 := by
  have e : (L.map En.key4)[j]? = some x.key4 := by rw [List.getElem?_map, hx]; rfl
  rw [h, List.getElem?_map] at e
  obtain ⟨y, hy, e2⟩ := Option.map_eq_some_iff.1 e
  exact ⟨y, hy, e2.symm⟩
theorem ctT_k {L M : List En} {w w' : World} {A B : Option Addr} (hL : RdE w A L) (hM : RdE w' B M) (h : L.map En.key4 = M.map En.key4) (k : ByteArray) (n d t : Int) : ctT L k n d t = ctT M k n d t := by
  unfold ctT
  rw [okLab_k h, fnd_k k 0 h]
  cases e : L[(fnd M k 0).toNat]? with
  | none =>
    have : M[(fnd M k 0).toNat]? = none := by
      rw [List.getElem?_eq_none_iff] at e ⊢
      rw [← len_of_key4 h]; exact e
    rw [this]
  | some x =>
    obtain ⟨y, hy, e2⟩ := at_k h e
    rw [hy]
    simp only [ctS_kk (hL _ _ e).1 (hM _ _ hy).1 e2]
theorem okLab_parts {L : List En} {k : ByteArray} {n d t : Int} (h : okLab L k n d t = true) : okLib L = true ∧ 0 ≤ fnd L k 0 ∧ wrt n d t = true := by
  unfold okLab at h
  simp only [Bool.and_eq_true, decide_eq_true_eq] at h
  exact ⟨h.1, h.2.1, h.2.2⟩
theorem goL_ok : ∀ (L : List En) (p : Option ByteArray), goL p L = true → ∀ x ∈ L, okE x = true
  | [], _, _, x, hx => absurd hx (by simp)
  | y :: r, p, h, x, hx => by
    unfold goL at h
    simp only [Bool.and_eq_true] at h
    obtain ⟨h1, h2, h3⟩ := h
    rcases List.mem_cons.1 hx with rfl | hx
    · exact h1
    · exact goL_ok r _ h3 x hx
theorem okL_of {L : List En} (h : okLib L = true) : ∀ x ∈ L, okE x = true := by
  unfold okLib at h
  simp only [Bool.and_eq_true] at h
  exact goL_ok L none h.2

end Go.Proofs.YteccmlpibbchbaaGreatDoor.Cit
