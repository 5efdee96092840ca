/-
  Contract of spec.l2Initials.
-/
import Derived.Test.YtdjkgkfgnmcldaaDoorIni2
import Derived.Laws.BytesArg
namespace Go.Proofs.YtdjkgkfgnmcldaaDoor.Ini
open Go.RowKit Pl Strs Help Name Stands SplitPl NmPl Word Part NGood Forms Cut IniPl

theorem str1 (wr : World) (x : Int) :
    (convert 22 9 (.slice (some ⟨wr.heap.size, 0, none⟩) 1 1)).run Tryd.prog (wr.alloc (.cells #[.int .u8 x] 5)) = .ok (.string ⟨#[UInt8.ofNat x.toNat]⟩) (wr.alloc (.cells #[.int .u8 x] 5)) := by
  refine (run_convert_bytes_arg _ 22 5 Tryd.underlying22 Tryd.underlying5 wr.heap.size 0 1 1 [x] rfl (fun i hi => ?_) 9 Tryd.underlying9)
  obtain rfl : i = 0 := by omega
  simp
theorem up_lo2 {c : UInt8} (h : isLo c = true) : Lib.upperB c = UInt8.ofNat (c.toNat - 32) := by
  rw [up_lo h]; congr 1; omega
theorem plus3 (o : ByteArray) (u : UInt8) : (o ++ (ByteArray.mk #[45]) ++ ⟨#[u]⟩ ++ ⟨#[46]⟩).data.toList = o.data.toList ++ [45, u, 46] := by simp
theorem psz3 (o : ByteArray) (u : UInt8) : (o ++ (ByteArray.mk #[45]) ++ ⟨#[u]⟩ ++ ⟨#[46]⟩).size = o.size + 3 := by
  rw [ByteArray.size_append, ByteArray.size_append, ByteArray.size_append]; rfl

set_option maxHeartbeats 4000000 in
set_option maxRecDepth 100000 in
theorem l2Initials (A : Option Addr) (c n : Nat) (xs : List ByteArray) (p f s : ByteArray) (w : World) (h : Rdn w A n xs) (hcp : ∀ x ∈ ls xs, capB x = true) (hn3 : n ≤ 1000) :
    Calls Tryd.prog 47 #[nmV (.slice A n c) p f s] w fun e w' => e = .returned (.string (ba (iniL xs p f s))) ∧ Below w.heap.size w w' := by
  obtain ⟨i0, hi, hz0, hz1, hz2⟩ := info_parts Split.infoStr
  have HB := Lib.hid ((Below.refl _ w).alloc (Nat.le_refl _) (.cells #[.slice A n c, .string p, .string f, .string s] 43))
  have H := Lib.hid (h.below HB.out)
  have HN := Lib.hid h.2.2
  have HCp := Lib.hid hcp
  have HC4 := Lib.hid (C4.new w (.slice A n c) p f s 43)
  clear h hcp
  go_enter Tryd.func47, Tryd.ntmps47
  go_wp2_with fail
  have HO0 : Hid (((w.alloc (.cells #[.slice A n c, .string p, .string f, .string s] 43)).alloc (.cells #[] 9)).ownsRow (w.alloc (.cells #[.slice A n c, .string p, .string f, .string s] 43)).heap.size 9 1 (.slice (some ⟨w.heap.size + 1, 0, none⟩) 0 0) 0 []) := Lib.hid (by
    have := World.ownsRow_lit (base := (w.alloc (.cells #[.slice A n c, .string p, .string f, .string s] 43)).heap.size) (e := 9) (size := 1) (w.alloc (.cells #[.slice A n c, .string p, .string f, .string s] 43)) #[] 0 (Nat.le_refl _) (Nat.zero_le _) rfl
    simpa using this)
  have HB1 : Hid (Below (w.alloc (.cells #[.slice A n c, .string p, .string f, .string s] 43)).heap.size (w.alloc (.cells #[.slice A n c, .string p, .string f, .string s] 43)) ((w.alloc (.cells #[.slice A n c, .string p, .string f, .string s] 43)).alloc (.cells #[] 9))) := Lib.hid ((Below.refl _ _).alloc (Nat.le_refl _) _)
  generalize w.alloc (.cells #[.slice A n c, .string p, .string f, .string s] 43) = W0 at *
  go_loopw [3, 4] (fun v i wr => ∃ k : Nat, k ≤ n ∧ i = .int .i64 k ∧ wr.ownsRow W0.heap.size 9 1 v k ((inis (xs.take k)).map Value.string) ∧ Below W0.heap.size W0 wr) (fun _ i _ => n - (intOf i).toNat)
  case atStart => exact ⟨0, Nat.zero_le _, rfl, HO0.out, HB1.out⟩
  case round =>
    obtain ⟨k, hk, rfl, hown, hbe⟩ := hrel
    rename World => wo
    have hbs := hbe.size
    obtain ⟨la, ha0, ha1, ha2, ha3⟩ := HC4.out.below hbe
    clear ha1 ha2 ha3
    by_cases hlt : k < n
    · have hkx : k < xs.length := by rw [HN.out]; exact hlt
      have hx? := List.getElem?_eq_getElem hkx
      obtain ⟨g, of, rfl, hc0⟩ := H.out.1 k xs[k] hx?
      have hg : g < W0.heap.size := H.out.2.1 (by omega) _ rfl
      have hc : wo.cell? ⟨g, of + k, none⟩ = some (.string xs[k]) := (hbe.cell (p := ⟨g, of + k, none⟩) hg).trans hc0
      have HT := Lib.hid (inis_take hx?)
      obtain ⟨hwg, hsx⟩ := cap_of_mem HCp.out hx?
      obtain ⟨d, t2, he, hd1⟩ := wgo_head hwg
      have HT1 := Lib.hid (take1 he)
      have hpx : 0 < xs[k].size := by rw [← len_size, he]; simp
      have HIs : Hid (ini xs[k].data.toList = [d, 46] ++ scan xs[k].data.toList) := Lib.hid (by rw [ini_scan hwg, he]; rfl)
      clear hx? hc0 hwg he hd1
      generalize xs[k] = x at *
      generalize ini x.data.toList = il at *
      have HO := Lib.hid hown
      have HBe := Lib.hid hbe
      clear hown hbe
      go_wp2_with fail
      go_loopw [6, 7] (fun sv kv wi => ∃ (j : Nat) (o : ByteArray), 1 ≤ j ∧ j ≤ x.size ∧ kv = .int .i64 j ∧ sv = .string o ∧ o.size ≤ 3 * j ∧ Hid (o.data.toList ++ scan (x.data.toList.drop (j - 1)) = il) ∧ Below wo.heap.size wo wi) (fun _ kv _ => x.size - (intOf kv).toNat)
      case atStart =>
        refine ⟨1, _, Nat.le_refl _, hpx, rfl, rfl, ?_, Lib.hid ?_, Below.refl _ _⟩
        · rw [HT1.out, ByteArray.size_append, sz1, sz1]; omega
        · rw [HT1.out, HIs.out]; simp
      case round =>
        obtain ⟨j, o, hj1, hj, rfl, rfl, ho, HS, hbi⟩ := hrel
        by_cases hjx : j < x.size
        · have hjp : j - 1 < x.size := by omega
          have HSc := Lib.hid (scan_drop x (j - 1) (by omega))
          have ej : j - 1 + 1 = j := by omega
          have HSj : Hid (scan (x.data.toList.drop (j - 1)) = (if x[j - 1] = 45 then [45, Lib.upperB x[j], 46] else []) ++ scan (x.data.toList.drop j)) := Lib.hid (by
            have := HSc.out
            simp only [ej] at this
            exact this)
          clear HSc ej
          by_cases hq : x[j - 1] = 45
          · have hqb : ((x[j - 1].toNat : Int) == 45) = true := by rw [hq]; rfl
            rw [if_pos hq] at HSj
            clear hq
            cases hlo : isLo x[j] with
            | true =>
              have HLo := Lib.hid hlo
              have hlb : 97 ≤ x[j].toNat ∧ x[j].toNat ≤ 122 := by unfold isLo at hlo; simpa using hlo
              have HUp := Lib.hid (up_lo2 hlo)
              have hcv := str1 wr ((x[j].toNat : Int) - 32)
              clear hlo
              go_wp2_with fail
              refine (lo_s _ true _ HLo.out).mono ?_
              rintro e w' ⟨rfl, rfl⟩
              go_wp2_with fail
              go_roundw
              case rel =>
                refine ⟨j + 1, _, by omega, by omega, by go_num, rfl, ?_, Lib.hid ?_, hbi.alloc (by have := hbi.size; omega) _⟩
                · rw [psz3]; omega
                · rw [plus3, ← HUp.out, ← HS.out, HSj.out]; simp
              case measure => simp [intOf]; omega
            | false =>
              have HLo := Lib.hid hlo
              have HUp := Lib.hid (up_no hlo)
              have hcv := str1 wr (x[j].toNat : Int)
              clear hlo
              go_wp2_with fail
              refine (lo_s _ false _ HLo.out).mono ?_
              rintro e w' ⟨rfl, rfl⟩
              go_wp2_with fail
              go_roundw
              case rel =>
                refine ⟨j + 1, _, by omega, by omega, by go_num, rfl, ?_, Lib.hid ?_, hbi.alloc (by have := hbi.size; omega) _⟩
                · rw [psz3]; omega
                · rw [plus3, ← HS.out, HSj.out, HUp.out]; simp
              case measure => simp [intOf]; omega
          · have hqb : ((x[j - 1].toNat : Int) == 45) = false := by
              rw [beq_eq_false_iff_ne]; intro e; exact hq (UInt8.toNat_inj.1 (by show x[j - 1].toNat = 45; omega))
            rw [if_neg hq] at HSj
            clear hq
            go_wp2_with fail
            go_roundw
            case rel => exact ⟨j + 1, o, by omega, by omega, by go_num, rfl, by omega, Lib.hid (by rw [← HS.out, HSj.out]; rfl), hbi⟩
            case measure => simp [intOf]; omega
        · have HOi : Hid (o = ba il) := Lib.hid (by
            have := HS.out
            rw [scan_end x (j - 1) (by omega), List.append_nil] at this
            exact eq_ba this)
          have hown1 := own_below HO.out hbi
          have hbe1 := HBe.out.trans (hbi.mono hbs)
          have hbs1 : W0.heap.size ≤ wr.heap.size := Nat.le_trans hbs hbi.size
          go_wp2_with (first
            | (at_builtin; refine wpList_append_own _ rfl _ _ 41 rfl W0.heap.size 9 i0 (.string ByteArray.empty) 1 16 Tryd.underlying41 hi hz0 hz1 hz2 rfl (by decide) _ _ _ rfl (hown1.alloc _) ⟨wr.heap.size, 0, none⟩ 1 1 [.string o] rfl rfl (cell_one_new _ _ _) (by simp [Value.oneCell']) (by unfold maxLen; omega) (by omega) (by simp; omega) ?_; intro v' w2 hown' hgrow _)
            | go_in)
          go_roundw
          case rel =>
            refine ⟨k + 1, by omega, by go_num, ?_, ?_⟩
            · rw [HT.out, ← HOi.out]; simpa using hown'
            · exact (hbe1.alloc hbs1 _).grown hgrow (by simp; omega) (fun g hg => (hown1.lt g hg).1)
          case measure => simp [intOf]; omega
    · obtain rfl : k = n := by omega
      have HT : Hid (xs.take k = xs) := Lib.hid (List.take_of_length_le (by rw [HN.out]; omega))
      rw [HT.out] at hown
      have hLn := inis_lens (caps_size HCp.out)
      rw [HN.out] at hLn
      obtain ⟨A1, c1, rfl, _, rd1, _⟩ := own_rds hown
      have HJ := Lib.hid (l2Join A1 c1 k (inis xs) wo rd1 (by rw [inis_len, HN.out]) (by omega))
      have HE : Hid (ba (iniL xs p f s) = ba (jn (ls (inis xs)))) := Lib.hid rfl
      clear hown rd1
      go_wp2_with fail
      refine HJ.out.mono ?_
      rintro e w2 ⟨rfl, rfl⟩
      go_wp2_with fail
      go_ret
      exact ⟨by rw [HE.out]; rfl, HB.out.trans (hbe.mono HB.out.size)⟩
theorem okN_three {xs : List ByteArray} {p f s : ByteArray} (h : okN xs p f s = true) : xs.length ≤ 3 := by
  rw [okN_eq] at h
  simp only [Bool.and_eq_true, decide_eq_true_eq] at h
  exact h.1.1.1.2

end Go.Proofs.YtdjkgkfgnmcldaaDoor.Ini
