/-
  Several texts of one claim in one file: LaPl, LaS, LaM, LaG, LaL, LaE, Kl.
-/
import Derived.Test.YtbicfmoemgaapaaGreatDoorGBl
import Derived.Test.YtbicfmoemgaapaaGreatDoorGEs
import Derived.Test.YtbicfmoemgaapaaGreatDoorMarks
import Derived.LoopTactic
import Derived.Maps.AppendAt
import Derived.Maps.Own
import Derived.StringKeys
import Derived.Maps.OwnOps
import Derived.Maps.Views
import Derived.Test.YtbicfmoemgaapaaGreatDoorGLb
import Derived.Test.YtbicfmoemgaapaaGreatDoorGTm
/-
  Labels out of base labels, plain.
-/
namespace Go.Proofs.YtbicfmoemgaapaaGreatDoor.La
open Go.RowKit Pl NmPl Strs Name Nms Ens Kpz Bl
set_option linter.unusedSimpArgs false
set_option linter.unusedVariables false

/-- how often s stands in a list -/
def cnt (s : ByteArray) (bs : List ByteArray) : Nat := (bs.filter fun x => decide (x = s)).length
theorem cnt_at {bs : List ByteArray} {k : Nat} {x : ByteArray} (s : ByteArray) (h : bs[k]? = some x) : cnt s (bs.take (k + 1)) = cnt s (bs.take k) + (if x = s then 1 else 0) := by
  unfold cnt
  rw [List.take_add_one, h, List.filter_append, List.length_append]
  congr 1
  by_cases hx : x = s <;> simp [hx]
theorem cnt_le (s : ByteArray) (bs : List ByteArray) : cnt s bs ≤ bs.length := List.length_filter_le _ _
theorem cnt_mono (s : ByteArray) (bs : List ByteArray) (k : Nat) : cnt s (bs.take k) ≤ cnt s bs := by
  conv => rhs; rw [← List.take_append_drop k bs]
  unfold cnt
  rw [List.filter_append, List.length_append]
  omega
theorem cnt_pos {bs : List ByteArray} {k : Nat} {s : ByteArray} (h : bs[k]? = some s) : 1 ≤ cnt s bs := by
  have h1 := cnt_at s h
  rw [if_pos rfl] at h1
  have h2 := cnt_mono s bs (k + 1)
  omega
/-- the label of the entry at place k with base label s -/
def lab (bs : List ByteArray) (k : Nat) (s : ByteArray) : ByteArray := if 1 < cnt s bs then s ++ ba [UInt8.ofNat (97 + cnt s (bs.take k))] else s
def labsTo (bs : List ByteArray) (k : Nat) : List ByteArray := (List.range k).map fun i => lab bs i (bs.getD i ⟨#[]⟩)
def labels (bs : List ByteArray) : List ByteArray := labsTo bs bs.length
theorem labs_succ {bs : List ByteArray} {k : Nat} {s : ByteArray} (h : bs[k]? = some s) : labsTo bs (k + 1) = labsTo bs k ++ [lab bs k s] := by
  unfold labsTo
  rw [List.range_succ, List.map_append, List.map_cons, List.map_nil, List.getD_eq_getElem?_getD, h]
  rfl
theorem labs_len (bs : List ByteArray) (k : Nat) : (labsTo bs k).length = k := by simp [labsTo]
theorem labels_len (bs : List ByteArray) : (labels bs).length = bs.length := labs_len _ _
/-- the base labels of entries -/
def bases (L : List En) : List ByteArray := L.map fun x => ba (baseL x)
theorem bases_at {L : List En} {k : Nat} {x : En} (h : L[k]? = some x) : (bases L)[k]? = some (ba (baseL x)) := by unfold bases; rw [List.getElem?_map, h]; rfl
theorem bases_len (L : List En) : (bases L).length = L.length := by simp [bases]
/-- what the entries must be for their base labels -/
def Fit (L : List En) : Prop := ∀ x ∈ L, x.ti.size ≤ 1048576 ∧ (∀ n ∈ x.auL, n.f.size ≤ 1048576) ∧ x.auN ≤ 1048576 ∧ 0 ≤ x.y ∧ x.y ≤ 9999 ∧ (ba (baseL x)).size ≤ 2097152
theorem byte_letter {p : Nat} (h : p ≤ 8) : (UInt8.ofNat (97 + p)).toNat = 97 + p := by
  rw [UInt8.toNat_ofNat']; omega
theorem lab_no {bs : List ByteArray} {k : Nat} {s : ByteArray} (h : cnt s bs = 1) : lab bs k s = s := by unfold lab; rw [if_neg (by omega)]
theorem lab_yes {bs : List ByteArray} {k : Nat} {s : ByteArray} (h : 1 < cnt s bs) : lab bs k s = s ++ ba [UInt8.ofNat (97 + cnt s (bs.take k))] := by unfold lab; rw [if_pos h]
theorem infoStr : (Tryz.prog.info? 9).map (fun i => (i.zero, i.size, i.bytes)) = some (some (.string ByteArray.empty), 1, 16) := by kernel_rfl
theorem ne_s {a b : ByteArray} (h : a ≠ b) : (a.toList == b.toList) = false := by
  rw [beq_eq_false_iff_ne]
  intro e
  rw [Lib.toList_data, Lib.toList_data] at e
  exact h (ByteArray.ext (Array.ext' e))
/-- an owned row of texts as its answer -/
def RowP (xs : List ByteArray) (w : World) (e : Ending) (w' : World) : Prop := ∃ v, e = .returned v ∧ w'.ownsRow w.heap.size 9 1 v xs.length (xs.map Value.string) ∧ Kp w w'
theorem row_add {w : World} {b : Nat} {e : TypeId} {v : Value} {xs : List ByteArray} {x : ByteArray} (h : w.ownsRow b e 1 v (xs.length + 1) (xs.map Value.string ++ [.string x])) : w.ownsRow b e 1 v (xs ++ [x]).length ((xs ++ [x]).map Value.string) := by
  rw [List.map_append, List.length_append]; exact h
theorem row_base {w : World} {b b' : Nat} {e : TypeId} {size : Nat} {v : Value} {n : Nat} {xs : List Value} (h : b' ≤ b) (ho : w.ownsRow b e size v n xs) : w.ownsRow b' e size v n xs := by
  refine ⟨ho.1, ?_⟩
  rcases ho.2 with h' | ⟨g, cap, cur, e1, e2, rest⟩
  · exact .inl h'
  · exact .inr ⟨g, cap, cur, e1, Nat.le_trans h e2, rest⟩
end Go.Proofs.YtbicfmoemgaapaaGreatDoor.La
/-
  l13Labels of the model.
-/
namespace Go.Proofs.YtbicfmoemgaapaaGreatDoor.La
open Go.RowKit Pl NmPl Strs Name Nms Ens Kpz Bl
set_option linter.unusedSimpArgs false
set_option linter.unusedVariables false


theorem conv8 (p : Nat) (h : p ≤ 8) : IntKind.u8.wrap (p : Int) = (p : Int) := by
  unfold IntKind.wrap
  have : ((p : Int) % 256) = p := by omega
  simp [IntKind.signed, IntKind.bits]
  omega
set_option maxRecDepth 100000 in
set_option maxHeartbeats 16000000 in
theorem labels_s (A : Option Addr) (c N : Nat) (L : List En) (w : World) (h : RdE w A L) (hn : L.length = N) (hm : N ≤ 8) (hF : Fit L) :
    Calls Tryz.prog 18 #[.agg #[.slice A N c]] w (RowP (labels (bases L)) w) := by
  obtain ⟨i0, hi, hz0, hz1', hz2⟩ := info_parts infoStr
  have hb0 : Kp w (w.alloc (.cells #[.slice A N c] 31)) := kal (kre _) _
  have hc0 : (w.alloc (.cells #[.slice A N c] 31)).cell? ⟨w.heap.size, 0, none⟩ = some (.slice A N c) := by simp
  have hs0 : w.heap.size < (w.alloc (.cells #[.slice A N c] 31)).heap.size := by simp
  have HSZ : Hid ((w.alloc (.cells #[.slice A N c] 31)).heap.size = w.heap.size + 1) := Lib.hid (by simp)
  have HN := Lib.hid hn
  have HFt := Lib.hid hF
  have HBl := Lib.hid (bases_len L)
  obtain ⟨bs, Hbs⟩ : ∃ bs, Hid (bases L = bs) := ⟨_, Lib.hid rfl⟩
  have HAt := Lib.hid (fun (k : Nat) (x : En) (hx : L[k]? = some x) => bases_at hx)
  rw [Hbs.out] at HBl HAt
  have HLn : Hid (bs.length = N) := Lib.hid (by rw [HBl.out, HN.out])
  rw [Hbs.out]
  have H0 := Lib.hid (h.below hb0)
  clear h hn hF
  go_enter Tryz.func18, Tryz.ntmps18
  go_wp2_with fail
  generalize w.alloc (.cells #[.slice A N c] 31) = w0 at hb0 hc0 hs0 H0 HSZ ⊢
  have HB0 := Lib.hid hb0
  have HC0 := Lib.hid (And.intro hc0 hs0)
  clear hb0 hc0 hs0
  go_loopw [3, 4] (fun v i wr => ∃ k : Nat, k ≤ N ∧ i = .int .i64 k ∧ Hid (wr.ownsRow w0.heap.size 9 1 v (labsTo bs k).length ((labsTo bs k).map Value.string)) ∧ Kp w0 wr) (fun _ i _ => N - (intOf i).toNat)
  case atStart => exact ⟨0, Nat.zero_le _, rfl, Lib.hid (by have h9 := World.ownsRow_lit (base := w0.heap.size) (e := 9) (size := 1) w0 #[] 0 (Nat.le_refl _) (Nat.zero_le _) rfl; rw [HSZ.out] at h9 ⊢; simpa [labsTo] using h9), kal (kre _) _⟩
  case round =>
    obtain ⟨k, hk, rfl, HO, hb⟩ := hrel
    rename World => wo
    have hl0 : wo.cell? ⟨w.heap.size, 0, none⟩ = some (.slice A N c) := (hb.cell (p := ⟨w.heap.size, 0, none⟩) HC0.out.2).trans HC0.out.1
    by_cases hlt : k < N
    · obtain ⟨x, hx⟩ : ∃ x, L[k]? = some x := ⟨_, List.getElem?_eq_getElem (by rw [HN.out]; exact hlt)⟩
      obtain ⟨hr, g, o, rfl, hg, c0, c1, c2, c3, c4, c5, c6, c7, c8, c9, c10, c11, c12, c13⟩ := (H0.out.below hb) k x hx
      obtain ⟨f1, f2, f3, f4, f5, f6⟩ := HFt.out x (List.mem_of_getElem? hx)
      have HSk := Lib.hid (HAt.out k x hx)
      obtain ⟨key, kind, auA, auN, auc, auL, edA, edN, edc, edL, ti, co, pu, y, m, d, ci, vol, pa, cr⟩ := x
      dsimp only at c0 c1 c2 c3 c4 c5 c6 c7 c8 c9 c10 c11 c12 c13 f1 f2 f3 f4 f5 f6
      have HBs := Lib.hid (fun w' (h : Kp wo w') => base_s key kind auA auN auc auL edA edN edc edL ti co pu y m d ci vol pa cr w' (hr.below h) f1 f2 f3 f4 f5)
      generalize ba (baseL (⟨key, kind, auA, auN, auc, auL, edA, edN, edc, edL, ti, co, pu, y, m, d, ci, vol, pa, cr⟩ : En)) = s at *
      have HLb := Lib.hid (labs_succ HSk.out)
      have HP1 := Lib.hid (cnt_pos HSk.out)
      clear hr f1 f2 f3 f4 f5 hx
      go_wp2_with fail
      refine (HBs.out _ (kre _)).mono ?_
      rintro e w1 ⟨rfl, b1⟩
      have hb1 := ktr hb b1
      clear HBs c0 c1 c2 c3 c4 c5 c6 c7 c8 c9 c10 c11 c12 c13 hl0
      have HO1 := Lib.hid (own_kp HO.out b1)
      clear HO b1 hb
      go_wp2_with fail
      go_loopw [6, 7, 8] (fun b a i wr => ∃ j nb na : Nat, j ≤ N ∧ i = .int .i64 j ∧ b = .int .i64 nb ∧ a = .int .i64 na ∧ Hid (nb = cnt s (bs.take (min j k))) ∧ Hid (na = cnt s (bs.take j)) ∧ Kp w1 wr) (fun _ _ i _ => N - (intOf i).toNat)
      case atStart => exact ⟨0, 0, 0, Nat.zero_le _, rfl, rfl, rfl, Lib.hid (by simp [cnt]), Lib.hid (by simp [cnt]), kre _⟩
      case round =>
        obtain ⟨j, nb, na, hj, rfl, rfl, rfl, HNb, HNa, hb2⟩ := hrel
        have hbw := ktr hb1 hb2
        have hl1 : wr.cell? ⟨w.heap.size, 0, none⟩ = some (.slice (some ⟨g, o, none⟩) N c) := (hbw.cell (p := ⟨w.heap.size, 0, none⟩) HC0.out.2).trans HC0.out.1
        have hnb8 : nb ≤ 8 := by have h1 := cnt_le s (bs.take (min j k)); rw [← HNb.out, List.length_take] at h1; have := HLn.out; omega
        have hna8 : na ≤ 8 := by have h1 := cnt_le s (bs.take j); rw [← HNa.out, List.length_take] at h1; have := HLn.out; omega
        by_cases hjl : j < N
        · obtain ⟨x, hx⟩ : ∃ x, L[j]? = some x := ⟨_, List.getElem?_eq_getElem (by rw [HN.out]; exact hjl)⟩
          obtain ⟨hr, g', o', e', hg', d0, d1, d2, d3, d4, d5, d6, d7, d8, d9, d10, d11, d12, d13⟩ := (H0.out.below hbw) j x hx
          cases e'
          obtain ⟨f1, f2, f3, f4, f5, -⟩ := HFt.out x (List.mem_of_getElem? hx)
          have HSj := Lib.hid (HAt.out j x hx)
          obtain ⟨key, kind, auA, auN, auc, auL, edA, edN, edc, edL, ti, co, pu, y, m, d, ci, vol, pa, cr⟩ := x
          dsimp only at d0 d1 d2 d3 d4 d5 d6 d7 d8 d9 d10 d11 d12 d13 f1 f2 f3 f4 f5
          have HBs := Lib.hid (base_s key kind auA auN auc auL edA edN edc edL ti co pu y m d ci vol pa cr wr hr f1 f2 f3 f4 f5)
          generalize ba (baseL (⟨key, kind, auA, auN, auc, auL, edA, edN, edc, edL, ti, co, pu, y, m, d, ci, vol, pa, cr⟩ : En)) = t at *
          have HCn := Lib.hid (cnt_at s HSj.out)
          clear hr f1 f2 f3 f4 f5 hx
          by_cases hts : t = s
          · subst hts
            have HA1 : Hid (na + 1 = cnt t (bs.take (j + 1))) := Lib.hid (by rw [HCn.out, ← HNa.out, if_pos rfl])
            by_cases hjk : j < k
            · have HB1 : Hid (nb + 1 = cnt t (bs.take (min (j + 1) k))) := Lib.hid (by
                rw [show min (j + 1) k = j + 1 by omega, HCn.out, if_pos rfl, HNb.out, show min j k = j by omega])
              go_wp2_with fail
              refine HBs.out.mono ?_
              rintro e w2 ⟨rfl, b2⟩
              go_wp2_with fail
              go_roundw
              case rel => exact ⟨j + 1, nb + 1, na + 1, by omega, by go_num, by go_num, by go_num, HB1, HA1, ktr hb2 b2⟩
              case measure => (simp [intOf] <;> omega)
            · have HB1 : Hid (nb = cnt t (bs.take (min (j + 1) k))) := Lib.hid (by rw [HNb.out, show min (j + 1) k = min j k by omega])
              go_wp2_with fail
              refine HBs.out.mono ?_
              rintro e w2 ⟨rfl, b2⟩
              go_wp2_with fail
              go_roundw
              case rel => exact ⟨j + 1, nb, na + 1, by omega, by go_num, rfl, by go_num, HB1, HA1, ktr hb2 b2⟩
              case measure => (simp [intOf] <;> omega)
          · have hne := ne_s hts
            have HA1 : Hid (na = cnt s (bs.take (j + 1))) := Lib.hid (by rw [HCn.out, ← HNa.out, if_neg hts]; rfl)
            have HB1 : Hid (nb = cnt s (bs.take (min (j + 1) k))) := Lib.hid (by
              by_cases hjk : j < k
              · rw [show min (j + 1) k = j + 1 by omega, HCn.out, if_neg hts, HNb.out, show min j k = j by omega]; rfl
              · rw [HNb.out, show min (j + 1) k = min j k by omega])
            clear hts
            go_wp2_with fail
            refine HBs.out.mono ?_
            rintro e w2 ⟨rfl, b2⟩
            go_wp2_with fail
            go_roundw
            case rel => exact ⟨j + 1, nb, na, by omega, by go_num, rfl, rfl, HB1, HA1, ktr hb2 b2⟩
            case measure => (simp [intOf] <;> omega)
        · obtain rfl : j = N := by omega
          have HNb' : Hid (nb = cnt s (bs.take k)) := Lib.hid (by rw [HNb.out, show min j k = k by omega])
          have HNa' : Hid (na = cnt s bs) := Lib.hid (by rw [HNa.out, List.take_of_length_le (by rw [HLn.out]; exact Nat.le_refl _)])
          have HO2 := Lib.hid (own_kp HO1.out hb2)
          have hs2 := ksz hbw
          have hln : (labsTo bs k).length ≤ 8 := by rw [labs_len]; omega
          clear HNb HNa hb2 HO1 hb1
          by_cases hmany : 1 < na
          · obtain ⟨z, hz⟩ : ∃ z, UInt8.ofNat (97 + nb) = z := ⟨_, rfl⟩
            have hzn : 97 + nb = z.toNat := by rw [← hz, byte_letter hnb8]
            have HL : Hid (lab bs k s = s ++ ba [z]) := Lib.hid (by rw [lab_yes (by rw [← HNa'.out]; exact hmany), ← HNb'.out, hz])
            have hcv := conv8 nb hnb8
            have hcv2 : IntKind.u8.wrap (97 + (nb : Int)) = (z.toNat : Int) := by rw [← hzn]; have := conv8; unfold IntKind.wrap; simp [IntKind.signed, IntKind.bits]; omega
            have hd : decide ((1 : Int) < (na : Int)) = true := by simp; omega
            have hs9 : (convert 65 9 (.slice (some ⟨wr.heap.size, 0, none⟩) 1 1)).run Tryz.prog (wr.alloc (.cells #[.int .u8 (z.toNat : Int)] 5)) = .ok (.string (ba [z])) (wr.alloc (.cells #[.int .u8 (z.toNat : Int)] 5)) := by
              rw [str1 wr (z.toNat : Int)]
              simp [ba]
            have hzz : (s ++ ba [z]).size = s.size + 1 := ByteArray.size_append
            have hz1 : (ba [z]).size = 1 := rfl
            have hL1 : ¬ 9223372036854775807 < s.size + 1 := by omega
            have HS2 : Hid (labsTo bs (k + 1) = labsTo bs k ++ [s ++ ba [z]]) := Lib.hid (by rw [HLb.out, HL.out])
            have hbw1 : Kp w0 (wr.alloc (.cells #[.int .u8 (z.toNat : Int)] 5)) := kal hbw _
            have HO4 := Lib.hid (HO2.out.alloc (.cells #[.int .u8 (z.toNat : Int)] 5))
            have hs4 := ksz hbw1
            clear hzn hz HO2
            go_wp2_with (first | (at_builtin; refine wpList_append_own _ rfl _ _ 26 rfl w0.heap.size 9 i0 (.string ByteArray.empty) 1 16 Tryz.underlying26 hi hz0 hz1' hz2 rfl (by decide) _ _ _ rfl (HO4.out.alloc _) ⟨wr.heap.size + 1, 0, none⟩ 1 1 [.string (s ++ ba [z])] rfl rfl (by first | exact cell_one_new _ _ _ | (have h9 := cell_one_new (wr.alloc (.cells #[.int .u8 (z.toNat : Int)] 5)) (.string (s ++ ba [z])) 9; simpa using h9)) (by simp [Value.oneCell']) (by unfold maxLen; omega) (by omega) (by simp; omega) ?_; intro v' w9 hown' hgrow _))
            have HO3 : Hid (w9.ownsRow w0.heap.size 9 1 v' (labsTo bs (k + 1)).length ((labsTo bs (k + 1)).map Value.string)) := Lib.hid (by rw [HS2.out]; exact row_add hown')
            have hb3 : Kp w0 w9 := (hbw1.alloc hs4 _).grown hgrow (by simp; omega) (fun q hq => (HO4.out.lt q hq).1)
            go_roundw
            case rel => exact ⟨k + 1, by omega, by go_num, HO3, hb3⟩
            case measure => (simp [intOf] <;> omega)
          · have HL : Hid (lab bs k s = s) := Lib.hid (lab_no (by have := HP1.out; have := HNa'.out; omega))
            have hd : decide ((1 : Int) < (na : Int)) = false := by simp; omega
            have HS2 : Hid (labsTo bs (k + 1) = labsTo bs k ++ [s]) := Lib.hid (by rw [HLb.out, HL.out])
            go_wp2_with (first | (at_builtin; refine wpList_append_own _ rfl _ _ 26 rfl w0.heap.size 9 i0 (.string ByteArray.empty) 1 16 Tryz.underlying26 hi hz0 hz1' hz2 rfl (by decide) _ _ _ rfl (HO2.out.alloc _) ⟨wr.heap.size, 0, none⟩ 1 1 [.string s] rfl rfl (cell_one_new _ _ _) (by simp [Value.oneCell']) (by unfold maxLen; omega) (by omega) (by simp; omega) ?_; intro v' w9 hown' hgrow _))
            have HO3 : Hid (w9.ownsRow w0.heap.size 9 1 v' (labsTo bs (k + 1)).length ((labsTo bs (k + 1)).map Value.string)) := Lib.hid (by rw [HS2.out]; exact row_add hown')
            have hb3 : Kp w0 w9 := (hbw.alloc hs2 _).grown hgrow (by simp; omega) (fun q hq => (HO2.out.lt q hq).1)
            go_roundw
            case rel => exact ⟨k + 1, by omega, by go_num, HO3, hb3⟩
            case measure => (simp [intOf] <;> omega)
    · obtain rfl : k = N := by omega
      have HE : Hid (labsTo bs k = labels bs) := Lib.hid (by unfold labels; rw [HLn.out])
      rw [HE.out] at HO
      go_wp2_with fail
      go_ret
      exact ⟨_, rfl, row_base (ksz HB0.out) HO.out, ktr HB0.out hb⟩
end Go.Proofs.YtbicfmoemgaapaaGreatDoor.La
/-
  Maps that count texts; labelGiver and the closure that it makes.
-/
namespace Go.Proofs.YtbicfmoemgaapaaGreatDoor.La
open Go.RowKit Go.Maps Pl NmPl Strs Name Nms Ens Kpz Bl
set_option linter.unusedSimpArgs false
set_option linter.unusedVariables false

theorem lawS : Keyed Tryz.prog 9 := string_keyed Tryz.underlying9
theorem zeroI (w : World) : (zeroValue 3).run Tryz.prog w = .ok (.int .i64 0) w := by kernel_rfl
/-- block B is a map that counts as f -/
def Mp (w : World) (B n : Nat) (f : ByteArray → Nat) : Prop := ∃ D : DataW Unit, w.ownsMap Tryz.prog 9 (plainElem Tryz.prog 3) B n D ∧ IsMap D ∧ ∀ s : ByteArray, D.atKey (.string s.data.toList) (.lit (.int .i64 0)) = .lit (.int .i64 ((f s : Nat) : Int))
theorem Mp.blk {w w' : World} {B n : Nat} {f : ByteArray → Nat} (h : Mp w B n f) (hb : w'.heap[B]? = w.heap[B]?) : Mp w' B n f := by
  obtain ⟨D, ⟨es, clock, h1, h2, h3, h4⟩, h5, h6⟩ := h
  exact ⟨D, ⟨es, clock, hb.trans h1, h2, h3, h4⟩, h5, h6⟩
theorem Mp.lt {w : World} {B n : Nat} {f : ByteArray → Nat} (h : Mp w B n f) : B < w.heap.size := by
  obtain ⟨D, h1, _⟩ := h
  exact h1.lt
theorem Mp.made (w : World) : Mp (w.alloc (.map #[] 0)) w.heap.size 0 (fun _ => 0) := ⟨.map [], World.ownsMap_made _ _ _ _, isMap_empty, fun s => rfl⟩
theorem str_ne {s t : ByteArray} (h : t ≠ s) : (Lit.string t.data.toList) ≠ Lit.string s.data.toList := fun e => h (ByteArray.ext (Array.ext' (by injection e)))
theorem put_f {D : DataW Unit} {f : ByteArray → Nat} {s : ByteArray} {v : Int} {m : Nat} (hD : IsMap D) (h : ∀ s : ByteArray, D.atKey (.string s.data.toList) (.lit (.int .i64 0)) = .lit (.int .i64 ((f s : Nat) : Int))) (hv : v = ((f s + 1 : Nat) : Int)) :
    ∀ t : ByteArray, (D.put (.string s.data.toList) (.lit (.int .i64 v))).atKey (.string t.data.toList) (.lit (.int .i64 0)) = .lit (.int .i64 (((if t = s then f s + 1 else f t) : Nat) : Int)) := by
  intro t
  by_cases hts : t = s
  · subst hts
    rw [if_pos rfl, atKey_put_same hD (by trivial), hv]
  · rw [if_neg hts, atKey_put_other (str_ne hts), h]
/-- what the closure keeps: how often each base label is there, how often it was given -/
structure GS (w : World) (n0 n1 b1 b2 B1 B2 q1 q2 : Nat) (bs : List ByteArray) (f : ByteArray → Nat) : Prop where
  c1 : w.cell? ⟨b1, 0, none⟩ = some (.map (some B1))
  c2 : w.cell? ⟨b2, 0, none⟩ = some (.map (some B2))
  m1 : Mp w B1 q1 (fun s => cnt s bs)
  m2 : Mp w B2 q2 f
  l1 : n0 ≤ b1 ∧ b1 < n1
  l2 : n0 ≤ b2 ∧ b2 < n1
  l3 : n0 ≤ B1 ∧ B1 < n1
  l4 : n0 ≤ B2 ∧ B2 < n1
  ne : B2 ≠ b1 ∧ B2 ≠ b2 ∧ B2 ≠ B1
theorem GS.keep {w w' : World} {n0 n1 b1 b2 B1 B2 q1 q2 : Nat} {bs : List ByteArray} {f : ByteArray → Nat} (h : GS w n0 n1 b1 b2 B1 B2 q1 q2 bs f) (hb : Below n1 w w') : GS w' n0 n1 b1 b2 B1 B2 q1 q2 bs f :=
  ⟨(hb.cell (p := ⟨b1, 0, none⟩) h.l1.2).trans h.c1, (hb.cell (p := ⟨b2, 0, none⟩) h.l2.2).trans h.c2, h.m1.blk (hb.block _ h.l3.2), h.m2.blk (hb.block _ h.l4.2), h.l1, h.l2, h.l3, h.l4, h.ne⟩
theorem GS.upd {w w' : World} {n0 n1 b1 b2 B1 B2 q1 q2 q2' : Nat} {bs : List ByteArray} {f f' : ByteArray → Nat} (h : GS w n0 n1 b1 b2 B1 B2 q1 q2 bs f) (hg : w.grownBy w' (some B2)) (hm : Mp w' B2 q2' f') : GS w' n0 n1 b1 b2 B1 B2 q1 q2' bs f' := by
  have hl1 := lt_cell h.c1
  have hl2 := lt_cell h.c2
  have hl3 := h.m1.lt
  obtain ⟨n1', n2', n3'⟩ := h.ne
  exact ⟨(World.cell?_of_block (a := ⟨b1, 0, none⟩) (hg.block b1 hl1 (fun e => n1' (Option.some.inj e).symm))).trans h.c1, (World.cell?_of_block (a := ⟨b2, 0, none⟩) (hg.block b2 hl2 (fun e => n2' (Option.some.inj e).symm))).trans h.c2,
    h.m1.blk (hg.block B1 hl3 (fun e => n3' (Option.some.inj e).symm)), hm, h.l1, h.l2, h.l3, h.l4, h.ne⟩
set_option maxRecDepth 100000 in
set_option maxHeartbeats 4000000 in
theorem giver_i (n0 n1 b1 b2 B1 B2 q1 q2 k : Nat) (bs : List ByteArray) (f : ByteArray → Nat) (s : ByteArray) (w : World) (h : GS w n0 n1 b1 b2 B1 B2 q1 q2 bs f) (hs : bs[k]? = some s) (hz : s.size ≤ 2097152) (hn : bs.length ≤ 8) (hq : q2 ≤ 1000) (hf : ∀ t, cnt t bs ≠ 1 → f t = cnt t (bs.take k)) :
    Calls Tryz.prog 63 #[.string s, .pointer (some ⟨b1, 0, none⟩), .pointer (some ⟨b2, 0, none⟩)] w fun e w' => e = .returned (.string (lab bs k s)) ∧ w.grownBy w' (some B2) ∧ ∃ f', GS w' n0 n1 b1 b2 B1 B2 q1 (q2 + 1) bs f' ∧ ∀ t, cnt t bs ≠ 1 → f' t = cnt t (bs.take (k + 1)) := by
  have hc1 := h.c1
  have hc2 := h.c2
  obtain ⟨D1, hown1, hD1, hat1⟩ := h.m1
  have hkey : keyOf Tryz.prog 9 (.string s) = some (.string s.data.toList) := Go.WideMaps.keyOf_string_mk (P := Tryz.prog) Tryz.underlying9 (by unfold maxLen; omega)
  have HAt1 : Hid (D1.atKey (.string s.data.toList) (.lit (.int .i64 0)) = .lit (.int .i64 ((cnt s bs : Nat) : Int))) := Lib.hid (hat1 s)
  have HCn := Lib.hid (fun t => cnt_at t hs)
  have hpos := cnt_pos hs
  by_cases h1 : cnt s bs = 1
  · have HL := Lib.hid (lab_no (k := k) h1)
    have HF : Hid (∀ t, cnt t bs ≠ 1 → f t = cnt t (bs.take (k + 1))) := Lib.hid (fun t ht => by
      rw [HCn.out t, if_neg (fun e => ht (by rw [← e]; exact h1)), Nat.add_zero]; exact hf t ht)
    have HG : Hid (GS w n0 n1 b1 b2 B1 B2 q1 (q2 + 1) bs f) := Lib.hid ⟨h.c1, h.c2, h.m1, (by
      obtain ⟨D, g1, g2, g3⟩ := h.m2
      exact ⟨D, g1.mono (Nat.le_succ _), g2, g3⟩), h.l1, h.l2, h.l3, h.l4, h.ne⟩
    rw [h1] at HAt1
    clear h hs hf hpos h1 hat1
    go_enter Tryz.func63, Tryz.ntmps63
    go_wp2_with (first
      | (at_lookup; refine wpList_lookup_own_int _ rfl _ _ 87 rfl 9 3 .i64 lawS Tryz.underlying87 Tryz.underlying3 (zeroI _) B1 q1 _ rfl hown1 _ _ rfl hkey ?_; intro c hat hwc; have hc9 : c = 1 := (by have h9 := HAt1.out; rw [hat] at h9; injection h9 with h9; injection h9); subst hc9; clear hat hwc))
    go_ret
    exact ⟨by rw [HL.out]; rfl, World.grownBy.refl _ _, f, HG.out, HF.out⟩
  · obtain ⟨D2, hown2, hD2, hat2⟩ := h.m2
    have HL := Lib.hid (lab_yes (k := k) (s := s) (bs := bs) (by omega))
    have hfs := hf s h1
    obtain ⟨p, hp⟩ : ∃ p, f s = p := ⟨_, rfl⟩
    have hp8 : p ≤ 8 := by rw [← hp, hfs]; have := cnt_le s (bs.take k); rw [List.length_take] at this; omega
    have HAt2 := Lib.hid (hat2 s)
    rw [hp] at HAt2
    have HPf := Lib.hid (fun v hv => put_f (s := s) (v := v) (m := 0) hD2 hat2 hv)
    rw [hp] at HPf
    have HFn : Hid (∀ t, cnt t bs ≠ 1 → (if t = s then p + 1 else f t) = cnt t (bs.take (k + 1))) := Lib.hid (fun t ht => by
      rw [HCn.out t]
      by_cases hts : t = s
      · rw [if_pos hts, hts, if_pos rfl, ← hfs, hp]
      · rw [if_neg hts, if_neg (fun e => hts e.symm), Nat.add_zero]; exact hf t ht)
    obtain ⟨z, hz9⟩ : ∃ z, UInt8.ofNat (97 + p) = z := ⟨_, rfl⟩
    have hzn : 97 + p = z.toNat := by rw [← hz9, byte_letter hp8]
    have HLz : Hid (lab bs k s = s ++ ba [z]) := Lib.hid (by rw [HL.out, ← hfs, hp, hz9])
    have hcv : IntKind.u8.wrap (p : Int) = (p : Int) := by unfold IntKind.wrap; simp [IntKind.signed, IntKind.bits]; omega
    have hcv2 : IntKind.u8.wrap (97 + (p : Int)) = (z.toNat : Int) := by rw [← hzn]; unfold IntKind.wrap; simp [IntKind.signed, IntKind.bits]; omega
    have hw1 : IntKind.i64.wrap ((p : Int) + 1) = (p : Int) + 1 := IntWalk.i64_in _ (by omega)
    have hs9 : ∀ wr : World, (convert 65 9 (.slice (some ⟨wr.heap.size, 0, none⟩) 1 1)).run Tryz.prog (wr.alloc (.cells #[.int .u8 (z.toNat : Int)] 5)) = .ok (.string (ba [z])) (wr.alloc (.cells #[.int .u8 (z.toNat : Int)] 5)) := by
      intro wr
      rw [str1 wr (z.toNat : Int)]
      simp [ba]
    have hzz : (s ++ ba [z]).size = s.size + 1 := ByteArray.size_append
    have hz1 : (ba [z]).size = 1 := rfl
    have hL1 : ¬ 9223372036854775807 < s.size + 1 := by omega
    obtain ⟨a, ha⟩ : ∃ a, cnt s bs = a := ⟨_, rfl⟩
    rw [ha] at HAt1
    have ha1 : ((a : Int) == 1) = false := by rw [beq_eq_false_iff_ne]; omega
    have HH := Lib.hid h
    have hb2lt : B2 < w.heap.size := hown2.lt
    clear h hs hf hpos h1 hat1 hat2 HL hfs hp hzn hz9 ha HCn
    go_enter Tryz.func63, Tryz.ntmps63
    go_wp2_with (first
      | (at_lookup; refine wpList_lookup_own_int _ rfl _ _ 87 rfl 9 3 .i64 lawS Tryz.underlying87 Tryz.underlying3 (zeroI _) B1 q1 _ rfl hown1 _ _ rfl hkey ?_; intro c hat hwc; have hc9 : c = (a : Int) := (by have h9 := HAt1.out; rw [hat] at h9; injection h9 with h9; injection h9); subst hc9; clear hat hwc)
      | (at_lookup; refine wpList_lookup_own_int _ rfl _ _ 87 rfl 9 3 .i64 lawS Tryz.underlying87 Tryz.underlying3 (zeroI _) B2 q2 _ rfl hown2 _ _ rfl hkey ?_; intro c hat hwc; have hc9 : c = (p : Int) := (by have h9 := HAt2.out; rw [hat] at h9; injection h9 with h9; injection h9); subst hc9; clear hat hwc)
      | (at_mapUpdate; refine wpList_mapUpdate_own _ rfl _ _ _ 87 rfl 9 3 lawS Tryz.underlying87 _ B2 q2 _ rfl hown2 (by unfold maxLen; omega) _ _ _ rfl rfl hkey _ [] (plainElem_int Tryz.underlying3 (WalkArith.wf_i64 (by omega))) ?_; intro w1 hown3 hgrow1))
    go_ret
    have hM1 : Mp w1 B2 (q2 + 1) (fun t => if t = s then p + 1 else f t) := ⟨_, hown3, hD2.put _ _, HPf.out _ (by push_cast; rfl)⟩
    exact ⟨by rw [HLz.out]; rfl, hgrow1.trans (World.grownBy_alloc _ _ _), _, HH.out.upd (hgrow1.trans (World.grownBy_alloc _ _ _)) (hM1.blk ((World.grownBy_alloc w1 _ none).block B2 hM1.lt (fun e => by cases e))), HFn.out⟩
end Go.Proofs.YtbicfmoemgaapaaGreatDoor.La
/-
  labelGiver: counts the base labels, gives the closure.
-/
namespace Go.Proofs.YtbicfmoemgaapaaGreatDoor.La
open Go.RowKit Go.Maps Pl NmPl Strs Name Nms Ens Kpz Bl
set_option linter.unusedSimpArgs false
set_option linter.unusedVariables false

theorem run_mf {P : Program} (fn : Fn) (first cap : Array Value) (w : World) : (Instr.makeFunc fn first cap).run P w = .ok (.func fn first cap) w := rfl
theorem Mp.put {w' : World} {B n : Nat} {f : ByteArray → Nat} {D : DataW Unit} {s : ByteArray} {v : Int} (hown : w'.ownsMap Tryz.prog 9 (plainElem Tryz.prog 3) B (n + 1) (D.put (.string s.data.toList) (.lit (.int .i64 v)))) (hD : IsMap D) (h : ∀ s : ByteArray, D.atKey (.string s.data.toList) (.lit (.int .i64 0)) = .lit (.int .i64 ((f s : Nat) : Int))) (hv : v = ((f s + 1 : Nat) : Int)) :
    Mp w' B (n + 1) (fun t => if t = s then f s + 1 else f t) := ⟨_, hown, hD.put _ _, put_f (m := 0) hD h hv⟩
set_option maxRecDepth 100000 in
set_option maxHeartbeats 4000000 in
theorem make_i (A : Option Addr) (c N : Nat) (bs : List ByteArray) (w : World) (h : RdS w A bs) (hn : bs.length = N) (hm : N ≤ 8) (hz : ∀ x ∈ bs, x.size ≤ 2097152) :
    Calls Tryz.prog 41 #[.slice A N c] w fun e w' => ∃ b1 b2 B1 B2 q1, e = .returned (.func (.func 63) #[] #[.pointer (some ⟨b1, 0, none⟩), .pointer (some ⟨b2, 0, none⟩)]) ∧ GS w' w.heap.size w'.heap.size b1 b2 B1 B2 q1 0 bs (fun _ => 0) ∧ Kp w w' := by
  have hmm := @run_makeMap Tryz.prog
  have hmf := @run_mf Tryz.prog
  have HR := Lib.hid h
  have HN := Lib.hid hn
  have HZ := Lib.hid hz
  clear h hn hz
  go_enter Tryz.func41, Tryz.ntmps41
  go_wp2_with fail
  have hs0 : ((w.alloc (.map #[] 0)).alloc (.cells #[.map (some w.heap.size)] 87)).heap.size = w.heap.size + 2 := by simp
  have hM0 : Mp ((w.alloc (.map #[] 0)).alloc (.cells #[.map (some w.heap.size)] 87)) w.heap.size 0 (fun _ => 0) := (Mp.made w).blk ((World.grownBy_alloc (w.alloc (.map #[] 0)) _ none).block w.heap.size (by simp) (fun e => by cases e))
  have hc0 : ((w.alloc (.map #[] 0)).alloc (.cells #[.map (some w.heap.size)] 87)).cell? ⟨w.heap.size + 1, 0, none⟩ = some (.map (some w.heap.size)) := by
    simp
  have hb0 : Kp w ((w.alloc (.map #[] 0)).alloc (.cells #[.map (some w.heap.size)] 87)) := kal (kal (kre _) _) _
  generalize (w.alloc (.map #[] 0)).alloc (.cells #[.map (some w.heap.size)] 87) = w0 at *
  have H0 := Lib.hid (And.intro hs0 (And.intro hM0 (And.intro hc0 hb0)))
  clear hs0 hM0 hc0 hb0
  go_loopw [10] (fun i wr => ∃ k : Nat, k ≤ N ∧ i = .int .i64 k ∧ wr.cell? ⟨w.heap.size + 1, 0, none⟩ = some (.map (some w.heap.size)) ∧ Mp wr w.heap.size k (fun s => cnt s (bs.take k)) ∧ Kp w wr) (fun i _ => N - (intOf i).toNat)
  case atStart => exact ⟨0, Nat.zero_le _, rfl, H0.out.2.2.1, by simpa [cnt] using H0.out.2.1, H0.out.2.2.2⟩
  case round =>
    obtain ⟨k, hk, rfl, hcb, hM, hb⟩ := hrel
    by_cases hlt : k < N
    · obtain ⟨s, hs⟩ : ∃ s, bs[k]? = some s := ⟨_, List.getElem?_eq_getElem (by rw [HN.out]; exact hlt)⟩
      have hzs := HZ.out s (List.mem_of_getElem? hs)
      obtain ⟨g, o, rfl, c0⟩ := HR.out k s hs
      have hce : wr.cell? ⟨g, o + k, none⟩ = some (.string s) := (hb.cell (p := ⟨g, o + k, none⟩) (lt_cell c0)).trans c0
      have HCn := Lib.hid (fun t => cnt_at t hs)
      obtain ⟨D1, hown1, hD1, hat1⟩ := hM
      have HD := Lib.hid (And.intro hD1 hat1)
      have hkey : keyOf Tryz.prog 9 (.string s) = some (.string s.data.toList) := Go.WideMaps.keyOf_string_mk (P := Tryz.prog) Tryz.underlying9 (by unfold maxLen; omega)
      have HAt1 : Hid (D1.atKey (.string s.data.toList) (.lit (.int .i64 0)) = .lit (.int .i64 ((cnt s (bs.take k) : Nat) : Int))) := Lib.hid (hat1 s)
      obtain ⟨p, hp⟩ : ∃ p, cnt s (bs.take k) = p := ⟨_, rfl⟩
      have hp8 : p ≤ 8 := by rw [← hp]; have := cnt_le s (bs.take k); rw [List.length_take] at this; omega
      have HP := Lib.hid hp
      rw [hp] at HAt1
      have hw1 : IntKind.i64.wrap ((p : Int) + 1) = (p : Int) + 1 := IntWalk.i64_in _ (by omega)
      have HB := Lib.hid hb
      have HCb := Lib.hid hcb
      clear hs c0 hD1 hat1 hp hzs
      go_wp2_with (first
        | (at_lookup; refine wpList_lookup_own_int _ rfl _ _ 87 rfl 9 3 .i64 lawS Tryz.underlying87 Tryz.underlying3 (zeroI _) w.heap.size k _ rfl hown1 _ _ rfl hkey ?_; intro c hat hwc; have hc9 : c = (p : Int) := (by have h9 := HAt1.out; rw [hat] at h9; injection h9 with h9; injection h9); subst hc9; clear hat hwc)
        | (at_mapUpdate; refine wpList_mapUpdate_own _ rfl _ _ _ 87 rfl 9 3 lawS Tryz.underlying87 _ w.heap.size k _ rfl hown1 (by unfold maxLen; omega) _ _ _ rfl rfl hkey _ [] (plainElem_int Tryz.underlying3 (WalkArith.wf_i64 (by omega))) ?_; intro w1 hown3 hgrow1))
      have hM1 := Mp.put hown3 HD.out.1 HD.out.2 (by rw [HP.out]; push_cast; rfl)
      have hfe : (fun t => if t = s then cnt s (bs.take k) + 1 else cnt t (bs.take k)) = fun t => cnt t (bs.take (k + 1)) := funext fun t => by
        rw [HCn.out t]
        by_cases hts : t = s
        · rw [if_pos hts, hts, if_pos rfl]
        · rw [if_neg hts, if_neg (fun e => hts e.symm), Nat.add_zero]
      rw [hfe] at hM1
      have hcb1 := (World.cell?_of_block (a := ⟨w.heap.size + 1, 0, none⟩) (hgrow1.block (w.heap.size + 1) (lt_cell HCb.out) (fun e => by injection e; omega))).trans HCb.out
      have hb1 : Kp w w1 := kgr HB.out hgrow1 (fun q hq => by injection hq with hq; omega)
      go_roundw
      case rel => exact ⟨k + 1, by omega, by go_num, hcb1, hM1, hb1⟩
      case measure => (simp [intOf] <;> omega)
    · obtain rfl : k = N := by omega
      have hM' : Mp wr w.heap.size k (fun s => cnt s bs) := by
        have h9 : bs.take k = bs := List.take_of_length_le (by rw [HN.out]; exact Nat.le_refl _)
        rw [h9] at hM; exact hM
      have HM := Lib.hid hM'
      have HB := Lib.hid hb
      have HCb := Lib.hid hcb
      clear hM hM' hb hcb
      go_wp2_with fail
      go_ret
      have hl := lt_cell HCb.out
      have hg : ∀ o, wr.grownBy ((wr.alloc (.map #[] 0)).alloc o) none := fun o => (World.grownBy_alloc _ _ _).trans (World.grownBy_alloc _ _ _)
      refine ⟨w.heap.size + 1, wr.heap.size + 1, w.heap.size, wr.heap.size, k, rfl, ⟨?_, ?_, ?_, ?_, ?_, ?_, ?_, ?_, ?_⟩, kal (kal HB.out _) _⟩
      · exact (World.cell?_of_block (a := ⟨w.heap.size + 1, 0, none⟩) ((hg _).block _ hl (fun e => by cases e))).trans HCb.out
      · simp
      · exact HM.out.blk ((hg _).block _ HM.out.lt (fun e => by cases e))
      · exact (Mp.made wr).blk ((World.grownBy_alloc (wr.alloc (.map #[] 0)) _ none).block wr.heap.size (by simp) (fun e => by cases e))
      all_goals (simp <;> omega)
end Go.Proofs.YtbicfmoemgaapaaGreatDoor.La
/-
  labelsOf and baseLabelsOf of the program.
-/
namespace Go.Proofs.YtbicfmoemgaapaaGreatDoor.La
open Go.RowKit Go.Maps Pl NmPl Strs Name Nms Ens Kpz Bl
open Num (Tab)
set_option linter.unusedSimpArgs false
set_option linter.unusedVariables false

set_option maxRecDepth 100000 in
set_option maxHeartbeats 4000000 in
theorem labels_i (A : Option Addr) (c N : Nat) (bs : List ByteArray) (w : World) (h : RdS w A bs) (hn : bs.length = N) (hm : N ≤ 8) (hz : ∀ x ∈ bs, x.size ≤ 2097152) :
    Calls Tryz.prog 23 #[.slice A N c] w (RowP (labels bs) w) := by
  obtain ⟨i0, hi, hz0, hz1', hz2⟩ := info_parts infoStr
  have HM := Lib.hid (make_i A c N bs w h hn hm hz)
  have HR := Lib.hid h
  have HN := Lib.hid hn
  have HZ := Lib.hid hz
  clear h hn hz
  go_enter Tryz.func23, Tryz.ntmps23
  go_wp2_with fail
  refine HM.out.mono ?_
  rintro e w1 ⟨b1, b2, B1, B2, q1, rfl, hG1, hb1⟩
  have HG1 := Lib.hid hG1
  have HB1 := Lib.hid hb1
  have HLt : Hid (B2 < w1.heap.size ∧ w.heap.size ≤ B2) := Lib.hid ⟨hG1.l4.2, hG1.l4.1⟩
  clear hG1 hb1 HM
  go_wp2_with fail
  go_loopw [12, 4] (fun i v wr => ∃ k : Nat, k ≤ N ∧ i = .int .i64 k ∧ Hid (wr.ownsRow w1.heap.size 9 1 v (labsTo bs k).length ((labsTo bs k).map Value.string)) ∧ Kp w wr ∧ w1.heap.size ≤ wr.heap.size ∧ ∃ f, Hid (GS wr w.heap.size w1.heap.size b1 b2 B1 B2 q1 k bs f ∧ ∀ t, cnt t bs ≠ 1 → f t = cnt t (bs.take k))) (fun i _ _ => N - (intOf i).toNat)
  case atStart =>
    refine ⟨0, Nat.zero_le _, rfl, Lib.hid (by have h9 := World.ownsRow_lit (base := w1.heap.size) (e := 9) (size := 1) w1 #[] 0 (Nat.le_refl _) (Nat.zero_le _) rfl; simpa [labsTo] using h9), kal HB1.out _, by simp, fun _ => 0, Lib.hid ⟨HG1.out.keep (Below.alloc (Below.refl _ _) (Nat.le_refl _) _), fun t _ => by simp [cnt]⟩⟩
  case round =>
    obtain ⟨k, hk, rfl, HO, hb, hsz, f, HG⟩ := hrel
    by_cases hlt : k < N
    · obtain ⟨s, hs⟩ : ∃ s, bs[k]? = some s := ⟨_, List.getElem?_eq_getElem (by rw [HN.out]; exact hlt)⟩
      have hzs := HZ.out s (List.mem_of_getElem? hs)
      obtain ⟨g, o, rfl, c0⟩ := HR.out k s hs
      have hce : wr.cell? ⟨g, o + k, none⟩ = some (.string s) := (hb.cell (p := ⟨g, o + k, none⟩) (lt_cell c0)).trans c0
      have HCg := Lib.hid (giver_i w.heap.size w1.heap.size b1 b2 B1 B2 q1 k k bs f s wr HG.out.1 hs hzs (by rw [HN.out]; exact hm) (by omega) HG.out.2)
      have HLb := Lib.hid (labs_succ hs)
      generalize lab bs k s = y at HCg HLb
      have hln : (labsTo bs k).length ≤ 8 := by rw [labs_len]; omega
      have HB := Lib.hid hb
      clear hs c0 hzs HG hb
      go_wp2_with fail
      refine HCg.out.mono ?_
      rintro e w2 ⟨rfl, hg2, f', hG2, hf'⟩
      have HG2 := Lib.hid (And.intro hG2 hf')
      have HO2 := Lib.hid (own_far HO.out hg2 (fun e => by
        have h8 := (HO.out.lt B2 e).1
        have h7 := HLt.out.1
        omega))
      have HB2 : Hid (Kp w w2) := Lib.hid (kgr HB.out hg2 (fun q hq => by injection hq with hq; have := HLt.out.2; omega))
      have hs2 : w1.heap.size ≤ w2.heap.size := Nat.le_trans hsz hg2.size
      clear hG2 hf' hg2 HCg HO
      go_wp2_with (first | (at_builtin; refine wpList_append_own _ rfl _ _ 26 rfl w1.heap.size 9 i0 (.string ByteArray.empty) 1 16 Tryz.underlying26 hi hz0 hz1' hz2 rfl (by decide) _ _ _ rfl (HO2.out.alloc _) ⟨w2.heap.size, 0, none⟩ 1 1 [.string y] rfl rfl (cell_one_new _ _ _) (by simp [Value.oneCell']) (by unfold maxLen; omega) (by omega) (by simp; omega) ?_; intro v' w9 hown' hgrow _))
      have HO3 : Hid (w9.ownsRow w1.heap.size 9 1 v' (labsTo bs (k + 1)).length ((labsTo bs (k + 1)).map Value.string)) := Lib.hid (by rw [HLb.out]; exact row_add hown')
      have hb3 : Kp w w9 := (HB2.out.alloc (ksz HB2.out) _).grown hgrow (by simp; have := ksz HB2.out; omega) (fun q hq => by have h9 := (HO2.out.lt q hq).1; have h8 := ksz HB1.out; omega)
      have hb4 : Below w1.heap.size w2 w9 := ((Below.refl _ _).alloc hs2 _).grown hgrow (by simp; omega) (fun q hq => (HO2.out.lt q hq).1)
      have hs9 : w1.heap.size ≤ w9.heap.size := Nat.le_trans hs2 hb4.size
      go_roundw
      case rel => exact ⟨k + 1, by omega, by go_num, HO3, hb3, hs9, f', Lib.hid ⟨HG2.out.1.keep hb4, HG2.out.2⟩⟩
      case measure => (simp [intOf] <;> omega)
    · obtain rfl : k = N := by omega
      have HE : Hid (labsTo bs k = labels bs) := Lib.hid (by unfold labels; rw [HN.out])
      rw [HE.out] at HO
      go_wp2_with fail
      go_ret
      exact ⟨_, rfl, row_base (ksz HB1.out) HO.out, hb⟩
set_option maxRecDepth 100000 in
set_option maxHeartbeats 8000000 in
theorem bases_i (A : Option Addr) (c N : Nat) (L : List En) (w : World) (h : RdE w A L) (hn : L.length = N) (hm : N ≤ 8) (hF : Fit L) (ht : Tab w) :
    Calls Tryz.prog 22 #[.agg #[.slice A N c]] w (RowP (bases L) w) := by
  obtain ⟨i0, hi, hz0, hz1', hz2⟩ := info_parts infoStr
  have hb0 : Kp w (w.alloc (.cells #[.slice A N c] 31)) := kal (kre _) _
  have hc0 : (w.alloc (.cells #[.slice A N c] 31)).cell? ⟨w.heap.size, 0, none⟩ = some (.slice A N c) := by simp
  have hs0 : w.heap.size < (w.alloc (.cells #[.slice A N c] 31)).heap.size := by simp
  have HSZ : Hid ((w.alloc (.cells #[.slice A N c] 31)).heap.size = w.heap.size + 1) := Lib.hid (by simp)
  have HN := Lib.hid hn
  have HFt := Lib.hid hF
  have HBl := Lib.hid (bases_len L)
  obtain ⟨bs, Hbs⟩ : ∃ bs, Hid (bases L = bs) := ⟨_, Lib.hid rfl⟩
  have HAt := Lib.hid (fun (k : Nat) (x : En) (hx : L[k]? = some x) => bases_at hx)
  rw [Hbs.out] at HBl HAt
  have HLn : Hid (bs.length = N) := Lib.hid (by rw [HBl.out, HN.out])
  rw [Hbs.out]
  have H0 := Lib.hid (h.below hb0)
  have HT := Lib.hid (ht.below hb0)
  clear h hn hF ht
  go_enter Tryz.func22, Tryz.ntmps22
  go_wp2_with fail
  generalize w.alloc (.cells #[.slice A N c] 31) = w0 at hb0 hc0 hs0 H0 HSZ HT ⊢
  have HB0 := Lib.hid hb0
  have HC0 := Lib.hid (And.intro hc0 hs0)
  clear hb0 hc0 hs0
  go_loopw [10, 3] (fun i v wr => ∃ k : Nat, k ≤ N ∧ i = .int .i64 k ∧ Hid (wr.ownsRow w0.heap.size 9 1 v (bs.take k).length ((bs.take k).map Value.string)) ∧ Kp w0 wr) (fun i _ _ => N - (intOf i).toNat)
  case atStart => exact ⟨0, Nat.zero_le _, rfl, Lib.hid (by have h9 := World.ownsRow_lit (base := w0.heap.size) (e := 9) (size := 1) w0 #[] 0 (Nat.le_refl _) (Nat.zero_le _) rfl; rw [HSZ.out] at h9 ⊢; simpa using h9), kal (kre _) _⟩
  case round =>
    obtain ⟨k, hk, rfl, HO, hb⟩ := hrel
    by_cases hlt : k < N
    · obtain ⟨x, hx⟩ : ∃ x, L[k]? = some x := ⟨_, List.getElem?_eq_getElem (by rw [HN.out]; exact hlt)⟩
      obtain ⟨hr, g, o, rfl, hg, c0, c1, c2, c3, c4, c5, c6, c7, c8, c9, c10, c11, c12, c13⟩ := (H0.out.below hb) k x hx
      obtain ⟨f1, f2, f3, f4, f5, f6⟩ := HFt.out x (List.mem_of_getElem? hx)
      have HSk := Lib.hid (HAt.out k x hx)
      obtain ⟨key, kind, auA, auN, auc, auL, edA, edN, edc, edL, ti, co, pu, y, m, d, ci, vol, pa, cr⟩ := x
      dsimp only at c0 c1 c2 c3 c4 c5 c6 c7 c8 c9 c10 c11 c12 c13 f1 f2 f3 f4 f5 f6
      have HBs := Lib.hid (fun w' (h : Kp wr w') => base_i key kind auA auN auc auL edA edN edc edL ti co pu y m d ci vol pa cr w' (hr.below h) f1 f2 f3 f4 f5 ((HT.out.below hb).below h))
      generalize ba (baseL (⟨key, kind, auA, auN, auc, auL, edA, edN, edc, edL, ti, co, pu, y, m, d, ci, vol, pa, cr⟩ : En)) = s at *
      have HLb : Hid (bs.take (k + 1) = bs.take k ++ [s]) := Lib.hid (by rw [List.take_add_one, HSk.out]; rfl)
      have hln : (bs.take k).length ≤ 8 := by rw [List.length_take]; omega
      have HB := Lib.hid hb
      clear hr f1 f2 f3 f4 f5 hx hb
      go_wp2_with fail
      refine (HBs.out _ (kal (kre _) _)).mono ?_
      rintro e w2 ⟨rfl, b2⟩
      have HB2 : Hid (Kp w0 w2) := Lib.hid (ktr (kal HB.out _) b2)
      have HO2 := Lib.hid (own_kp (own_kp HO.out (kal (kre _) _)) b2)
      have hs2 := ksz HB2.out
      clear b2 HBs HO c0 c1 c2 c3 c4 c5 c6 c7 c8 c9 c10 c11 c12 c13
      go_wp2_with (first | (at_builtin; refine wpList_append_own _ rfl _ _ 26 rfl w0.heap.size 9 i0 (.string ByteArray.empty) 1 16 Tryz.underlying26 hi hz0 hz1' hz2 rfl (by decide) _ _ _ rfl (HO2.out.alloc _) ⟨w2.heap.size, 0, none⟩ 1 1 [.string s] rfl rfl (cell_one_new _ _ _) (by simp [Value.oneCell']) (by unfold maxLen; omega) (by omega) (by simp; omega) ?_; intro v' w9 hown' hgrow _))
      have HO3 : Hid (w9.ownsRow w0.heap.size 9 1 v' (bs.take (k + 1)).length ((bs.take (k + 1)).map Value.string)) := Lib.hid (by rw [HLb.out]; exact row_add hown')
      have hb3 : Kp w0 w9 := (HB2.out.alloc hs2 _).grown hgrow (by simp; omega) (fun q hq => (HO2.out.lt q hq).1)
      go_roundw
      case rel => exact ⟨k + 1, by omega, by go_num, HO3, hb3⟩
      case measure => (simp [intOf] <;> omega)
    · obtain rfl : k = N := by omega
      have HE : Hid (bs.take k = bs) := Lib.hid (List.take_of_length_le (by rw [HLn.out]; exact Nat.le_refl _))
      rw [HE.out] at HO
      have HB := Lib.hid (ktr HB0.out hb)
      have hls := (HC0.out.2)
      have hl0 : wr.cell? ⟨w.heap.size, 0, none⟩ = some (.slice A k c) := (hb.cell (p := ⟨w.heap.size, 0, none⟩) HC0.out.2).trans HC0.out.1
      go_wp2_with fail
      go_ret
      exact ⟨_, rfl, row_base (ksz HB0.out) HO.out, HB.out⟩
end Go.Proofs.YtbicfmoemgaapaaGreatDoor.La
/-
  LabelsOf of both; what a library says, and a fresh library's marks.
-/
namespace Go.Proofs.YtbicfmoemgaapaaGreatDoor.La
open Go.RowKit Pl NmPl Strs Name Nms Ens Kpz Bl Lbs
open Num (Tab)
set_option linter.unusedSimpArgs false
set_option linter.unusedVariables false

theorem goL_all : ∀ (L : List En) (p : Option ByteArray), goL p L = true → ∀ x ∈ L, okE x = true
  | [], _, _, x, hx => by cases hx
  | y :: r, p, h, x, hx => by
    unfold goL at h
    simp only [Bool.and_eq_true] at h
    rcases List.mem_cons.1 hx with rfl | hx
    · exact h.1
    · exact goL_all r _ h.2.2 x hx
theorem baseL_kk {x y : En} (h : x.key4 = y.key4) : baseL x = baseL y := by
  simp only [En.key4, Prod.mk.injEq] at h
  obtain ⟨h1, h2, h3, h4, h5, h6, h7, ⟨h8, h9, h10, h11⟩, h12, h13, h14⟩ := h
  have e : ∀ K : List Nm, fams K = (K.map Nm.key).map fun k => k.2.2.1.data.toList := fun K => by rw [List.map_map]; rfl
  unfold baseL
  rw [h5, h8, e, e, h3]
theorem bases_kk : ∀ {L M : List En}, L.map En.key4 = M.map En.key4 → bases L = bases M
  | [], [], _ => rfl
  | [], y :: s, h => by simp at h
  | x :: r, [], h => by simp at h
  | x :: r, y :: s, h => by
    simp only [List.map_cons, List.cons.injEq] at h
    have e1 := baseL_kk h.1
    have e2 := bases_kk h.2
    unfold bases at *
    rw [List.map_cons, List.map_cons, e1, e2]
theorem fit_of {w : World} {A : Option Addr} {L : List En} (hok : okLib L = true) (hz : ∀ x ∈ L, x.sz ≤ 1048576) (hr : RdE w A L) : L.length ≤ 8 ∧ Fit L := by
  unfold okLib at hok
  rw [Bool.and_eq_true] at hok
  refine ⟨of_decide_eq_true hok.1, fun x hx => ?_⟩
  have hy := year_of (goL_all L none hok.2 x hx)
  have h1 := hz x hx
  obtain ⟨k, hk, rfl⟩ := List.getElem_of_mem hx
  have h2 := (hr k _ (List.getElem?_eq_getElem hk)).1.2.1
  generalize L[k] = x at *
  unfold En.sz at h1
  obtain ⟨s1, s2, s3⟩ := small (key := x.key) (edN := x.edN) (edL := x.edL) (co := x.co) (pu := x.pu) (pa := x.pa) (cr := x.cr) h1
  refine ⟨s1, s2, s3, hy.1, hy.2, ?_⟩
  have h3 := nm_size x.ti.data.toList x.auL
  have h4 : (ba (yrB x.y)).size ≤ 2 := by rw [ba_size]; exact yrB_len x.y
  unfold baseL
  rw [← ba_app, ByteArray.size_append]
  omega
/-- what LabelsOf answers -/
def lbS (L : List En) : List ByteArray := if okLib L then labels (bases L) else []
def LbP (L : List En) (w : World) (e : Ending) (w' : World) : Prop := ∃ v, e = .returned (.tuple #[v, .bool (okLib L)]) ∧ w'.ownsRow w.heap.size 9 1 v (lbS L).length ((lbS L).map Value.string) ∧ Kp w w'
theorem lbS_kk {L M : List En} (h : L.map En.key4 = M.map En.key4) : lbS L = lbS M := by unfold lbS; rw [okLib_k h, bases_kk h]
theorem lbS_len (L : List En) : (lbS L).length ≤ 8 := by
  unfold lbS
  split
  · rename_i hok
    unfold okLib at hok
    rw [Bool.and_eq_true] at hok
    rw [labels_len, bases_len]
    exact of_decide_eq_true hok.1
  · exact Nat.zero_le _
theorem bases_mem {L : List En} (hF : Fit L) : ∀ s ∈ bases L, s.size ≤ 2097152 := by
  intro s hs
  unfold bases at hs
  obtain ⟨x, hx, rfl⟩ := List.mem_map.1 hs
  exact (hF x hx).2.2.2.2.2
/-- the numbers of words of a library's names -/
def wds (M : List En) : List (List Nat × List Nat) := M.map fun x => (x.auL.map Nm.n, x.edL.map Nm.n)
theorem fr_es {b0 b1 g : Nat} {w : World} {M : List En} (h : FrE w g M) (h0 : b0 ≤ g) (h1 : w.heap.size ≤ b1) : Tms.Es b0 b1 w (some ⟨g, 0, none⟩) (wds M) := by
  intro j p hj
  unfold wds at hj
  rw [List.getElem?_map] at hj
  obtain ⟨x, hx, rfl⟩ := Option.map_eq_some_iff.1 hj
  obtain ⟨g2, g3, e2, e3, l2, l3, f2, f3, n2, n3⟩ := h.2.1 x (List.mem_of_getElem? hx)
  refine ⟨g, 0, x, rfl, h0, Nat.lt_of_lt_of_le h.2.2.lt h1, h.2.2, (h.1 j x hx).2, ?_, by rw [List.length_map]; exact n2, ?_, by rw [List.length_map]; exact n3⟩
  · rw [e2]; exact Tms.fr_ns' f2 (by omega) h1
  · rw [e3]; exact Tms.fr_ns' f3 (by omega) h1
theorem wds_len (M : List En) : (wds M).length = M.length := by simp [wds]
theorem wds_cnt {w : World} {A : Option Addr} {M : List En} (h : RdE w A M) : Tms.cntL (wds M) ≤ 12 * M.length + 3 * szEs M := by
  have hx : ∀ x ∈ M, Tms.cntE (x.auL.map Nm.n, x.edL.map Nm.n) ≤ 12 + 3 * x.sz := fun x hx => by
    obtain ⟨k, hk, rfl⟩ := List.getElem_of_mem hx
    obtain ⟨r1, r2, r3, r4⟩ := (h k _ (List.getElem?_eq_getElem hk)).1
    have h1 := Tms.cnt_sz r1
    have h2 := Tms.cnt_sz r3
    unfold Tms.cntE En.sz
    dsimp only
    omega
  clear h
  unfold wds
  induction M with
  | nil => simp [Tms.cntL]
  | cons x r ih =>
    have h1 := ih (fun y hy => hx y (List.mem_cons_of_mem _ hy))
    have h2 := hx x (List.mem_cons_self ..)
    have e1 : Tms.cntL ((x :: r).map fun x => (x.auL.map Nm.n, x.edL.map Nm.n)) = Tms.cntE (x.auL.map Nm.n, x.edL.map Nm.n) + Tms.cntL (r.map fun x => (x.auL.map Nm.n, x.edL.map Nm.n)) := by simp [Tms.cntL]
    have e2 : szEs (x :: r) = x.sz + szEs r := by simp [szEs]
    rw [e1, e2, List.length_cons]
    omega
theorem szEs_kk {w w' : World} {A B : Option Addr} {L M : List En} (hM : RdE w B M) (hL : RdE w' A L) (h : M.map En.key4 = L.map En.key4) : szEs M = szEs L := by
  unfold szEs
  congr 1
  refine List.ext_getElem? fun j => ?_
  have hj := congrArg (fun l => l[j]?) h
  simp only [List.getElem?_map] at hj ⊢
  cases hx : M[j]? with
  | none => rw [hx] at hj; cases hy : L[j]? with
    | none => rfl
    | some y => rw [hy] at hj; cases hj
  | some x => rw [hx] at hj; cases hy : L[j]? with
    | none => rw [hy] at hj; cases hj
    | some y =>
      rw [hy] at hj
      simp only [Option.map_some, Option.some.injEq] at hj ⊢
      exact sz_k (hM j x hx).1 (hL j y hy).1 hj
end Go.Proofs.YtbicfmoemgaapaaGreatDoor.La
/-
  KeysOfLabel: the keys of the entries that a closure wants.
-/
namespace Go.Proofs.YtbicfmoemgaapaaGreatDoor.La
open Go.RowKit Pl NmPl Strs Name Nms Ens Kpz Bl Lbs
open Num (Tab)
set_option linter.unusedSimpArgs false
set_option linter.unusedVariables false

theorem rds_kp {w w' : World} {A : Option Addr} {xs : List ByteArray} (h : RdS w A xs) (hb : Kp w w') : RdS w' A xs := fun j x hx => by
  obtain ⟨g, o, rfl, c⟩ := h j x hx
  exact ⟨g, o, rfl, (hb.cell (p := ⟨g, o + j, none⟩) (lt_cell c)).trans c⟩
def hitB (ls bs : List ByteArray) (q : ByteArray) (j : Nat) : Bool := decide (ls[j]? = some q) || decide (bs[j]? = some q)
/-- the keys of the wanted entries among the first k -/
def ksTo (L : List En) (p : Nat → Bool) (k : Nat) : List ByteArray := (List.range k).filterMap fun j => if p j then (L[j]?).map En.key else none
theorem ksTo_succ {L : List En} {p : Nat → Bool} {k : Nat} {x : En} (hx : L[k]? = some x) : ksTo L p (k + 1) = ksTo L p k ++ (if p k then [x.key] else []) := by
  unfold ksTo
  rw [List.range_succ, List.filterMap_append]
  congr 1
  by_cases h : p k = true <;> simp [h, hx]
theorem ksTo_len (L : List En) (p : Nat → Bool) (k : Nat) : (ksTo L p k).length ≤ k := by
  have := List.length_filterMap_le (fun j => if p j then (L[j]?).map En.key else none) (List.range k)
  rw [List.length_range] at this
  exact this
set_option maxHeartbeats 4000000 in
theorem hit_i (b7 b3 b6 k N : Nat) (A7 : Option Addr) (c7 : Nat) (A6 : Option Addr) (c6 : Nat) (ls bs : List ByteArray) (q : ByteArray) (w : World) (h7 : w.cell? ⟨b7, 0, none⟩ = some (.slice A7 N c7)) (h3 : w.cell? ⟨b3, 0, none⟩ = some (.string q)) (h6 : w.cell? ⟨b6, 0, none⟩ = some (.slice A6 N c6)) (r7 : RdS w A7 ls) (r6 : RdS w A6 bs) (hl : ls.length = N) (hb : bs.length = N) (hk : k < N) (hN : N ≤ 8) :
    Calls Tryz.prog 25 #[.int .i64 k, .pointer (some ⟨b7, 0, none⟩), .pointer (some ⟨b3, 0, none⟩), .pointer (some ⟨b6, 0, none⟩)] w fun e w' => e = .returned (.bool (hitB ls bs q k)) ∧ Kp w w' := by
  obtain ⟨x, hx⟩ : ∃ x, ls[k]? = some x := ⟨_, List.getElem?_eq_getElem (by rw [hl]; exact hk)⟩
  obtain ⟨y, hy⟩ : ∃ x, bs[k]? = some x := ⟨_, List.getElem?_eq_getElem (by rw [hb]; exact hk)⟩
  obtain ⟨g, o, rfl, c0⟩ := r7 k x hx
  obtain ⟨g', o', rfl, c1⟩ := r6 k y hy
  have HE : Hid (hitB ls bs q k = (decide (x = q) || decide (y = q))) := Lib.hid (by unfold hitB; rw [hx, hy]; simp)
  rw [HE.out]
  clear hx hy r7 r6 hl hb HE
  by_cases e1 : x = q
  · subst e1
    have hxx : (x.toList == x.toList) = true := by simp
    rw [show (decide (x = x) || decide (y = x)) = true by simp]
    go_enter Tryz.func25, Tryz.ntmps25
    go_wp2_with fail
    go_quiet (fail)
    go_wp2_with fail
    go_ret
    exact ⟨rfl, kdn (kre _) _⟩
  · have hxq := ne_s e1
    rw [decide_eq_false e1, Bool.false_or]
    by_cases e2 : y = q
    · subst e2
      have hyy : (y.toList == y.toList) = true := by simp
      rw [show decide (y = y) = true by simp]
      clear e1
      go_enter Tryz.func25, Tryz.ntmps25
      go_wp2_with fail
      go_quiet (fail)
      go_wp2_with fail
      go_ret
      exact ⟨rfl, kdn (kre _) _⟩
    · have hyq := ne_s e2
      rw [decide_eq_false e2]
      clear e1 e2
      go_enter Tryz.func25, Tryz.ntmps25
      go_wp2_with fail
      go_quiet (fail)
      go_wp2_with fail
      go_ret
      exact ⟨rfl, kdn (kre _) _⟩
set_option maxRecDepth 100000 in
set_option maxHeartbeats 8000000 in
theorem where_i (A : Option Addr) (c N : Nat) (L : List En) (b7 b3 b6 : Nat) (p : Nat → Bool) (w : World) (h : RdE w A L) (hn : L.length = N) (hm : N ≤ 8)
    (hp : ∀ (w' : World) (k : Nat), Kp w w' → k < N → Calls Tryz.prog 25 #[.int .i64 k, .pointer (some ⟨b7, 0, none⟩), .pointer (some ⟨b3, 0, none⟩), .pointer (some ⟨b6, 0, none⟩)] w' fun e w'' => e = .returned (.bool (p k)) ∧ Kp w' w'') :
    Calls Tryz.prog 24 #[.agg #[.slice A N c], .func (.func 25) #[] #[.pointer (some ⟨b7, 0, none⟩), .pointer (some ⟨b3, 0, none⟩), .pointer (some ⟨b6, 0, none⟩)]] w (RowP (ksTo L p N) w) := by
  obtain ⟨i0, hi, hz0, hz1', hz2⟩ := info_parts infoStr
  have hb0 : Kp w (w.alloc (.cells #[.slice A N c] 31)) := kal (kre _) _
  have hc0 : (w.alloc (.cells #[.slice A N c] 31)).cell? ⟨w.heap.size, 0, none⟩ = some (.slice A N c) := by simp
  have hs0 : w.heap.size < (w.alloc (.cells #[.slice A N c] 31)).heap.size := by simp
  have HSZ : Hid ((w.alloc (.cells #[.slice A N c] 31)).heap.size = w.heap.size + 1) := Lib.hid (by simp)
  have HN := Lib.hid hn
  have H0 := Lib.hid (h.below hb0)
  have HP := Lib.hid hp
  clear h hn hp
  go_enter Tryz.func24, Tryz.ntmps24
  go_wp2_with fail
  generalize w.alloc (.cells #[.slice A N c] 31) = w0 at hb0 hc0 hs0 H0 HSZ ⊢
  have HB0 := Lib.hid hb0
  have HC0 := Lib.hid (And.intro hc0 hs0)
  clear hb0 hc0 hs0
  go_loopw [12, 5] (fun i v wr => ∃ k : Nat, k ≤ N ∧ i = .int .i64 k ∧ Hid (wr.ownsRow w0.heap.size 9 1 v (ksTo L p k).length ((ksTo L p k).map Value.string)) ∧ Kp w0 wr) (fun i _ _ => N - (intOf i).toNat)
  case atStart => exact ⟨0, Nat.zero_le _, rfl, Lib.hid (by have h9 := World.ownsRow_lit (base := w0.heap.size) (e := 9) (size := 1) w0 #[] 0 (Nat.le_refl _) (Nat.zero_le _) rfl; rw [HSZ.out] at h9 ⊢; simpa [ksTo] using h9), kal (kre _) _⟩
  case round =>
    obtain ⟨k, hk, rfl, HO, hb⟩ := hrel
    by_cases hlt : k < N
    · obtain ⟨x, hx⟩ : ∃ x, L[k]? = some x := ⟨_, List.getElem?_eq_getElem (by rw [HN.out]; exact hlt)⟩
      obtain ⟨hr, g, o, rfl, hg, c0, c1, c2, c3, c4, c5, c6, c7, c8, c9, c10, c11, c12, c13⟩ := (H0.out.below hb) k x hx
      have HKs := Lib.hid (ksTo_succ (p := p) hx)
      obtain ⟨key, kind, auA, auN, auc, auL, edA, edN, edc, edL, ti, co, pu, y, m, d, ci, vol, pa, cr⟩ := x
      dsimp only at c0 c1 c2 c3 c4 c5 c6 c7 c8 c9 c10 c11 c12 c13 HKs
      have hln : (ksTo L p k).length ≤ 8 := Nat.le_trans (ksTo_len L p k) (by omega)
      have HB := Lib.hid hb
      have HX := Lib.hid (E14.new wr (⟨key, kind, auA, auN, auc, auL, edA, edN, edc, edL, ti, co, pu, y, m, d, ci, vol, pa, cr⟩ : En) 48)
      clear hr hx hb
      go_upto_region 5 with fail
      generalize hW : wr.alloc (.cells #[.string key, .int .i64 kind, .slice auA auN auc, .slice edA edN edc, .string ti, .string co, .string pu, .int .i64 y, .int .i64 m, .int .i64 d, .bool ci, .int .i64 vol, .string pa, .string cr] 48) = w1 at HX ⊢
      have k1 : Kp wr w1 := by rw [← hW]; exact kal (kre _) _
      clear hW c0 c1 c2 c3 c4 c5 c6 c7 c8 c9 c10 c11 c12 c13
      have HCp := Lib.hid (HP.out w1 k (ktr HB0.out (ktr HB.out k1)) hlt)
      go_wp2_with fail
      refine HCp.out.mono ?_
      rintro e w2 ⟨rfl, b2⟩
      have d0 := (b2.cell (p := ⟨wr.heap.size, 0, none⟩) HX.out.1).trans HX.out.2.1
      dsimp only at d0
      have HB2 := Lib.hid (ktr (ktr HB.out k1) b2)
      have HO2 := Lib.hid (own_kp (own_kp HO.out k1) b2)
      have hs2 := ksz HB2.out
      clear b2 k1 HCp HO HX
      cases hpk : p k
      · have HE : Hid (ksTo L p (k + 1) = ksTo L p k) := Lib.hid (by rw [HKs.out, hpk]; simp)
        go_wp2_with fail
        go_roundw
        case rel => exact ⟨k + 1, by omega, by go_num, by rw [HE.out]; exact HO2, HB2.out⟩
        case measure => (simp [intOf] <;> omega)
      · have HE : Hid (ksTo L p (k + 1) = ksTo L p k ++ [key]) := Lib.hid (by rw [HKs.out, hpk]; simp)
        go_wp2_with (first | (at_builtin; refine wpList_append_own _ rfl _ _ 26 rfl w0.heap.size 9 i0 (.string ByteArray.empty) 1 16 Tryz.underlying26 hi hz0 hz1' hz2 rfl (by decide) _ _ _ rfl (HO2.out.alloc _) ⟨w2.heap.size, 0, none⟩ 1 1 [.string key] rfl rfl (cell_one_new _ _ _) (by simp [Value.oneCell']) (by unfold maxLen; omega) (by omega) (by simp; omega) ?_; intro v' w9 hown' hgrow _))
        have HO3 : Hid (w9.ownsRow w0.heap.size 9 1 v' (ksTo L p (k + 1)).length ((ksTo L p (k + 1)).map Value.string)) := Lib.hid (by rw [HE.out]; exact row_add hown')
        have hb3 : Kp w0 w9 := (HB2.out.alloc hs2 _).grown hgrow (by simp; omega) (fun q hq => (HO2.out.lt q hq).1)
        go_roundw
        case rel => exact ⟨k + 1, by omega, by go_num, HO3, hb3⟩
        case measure => (simp [intOf] <;> omega)
    · obtain rfl : k = N := by omega
      have hl0 : wr.cell? ⟨w.heap.size, 0, none⟩ = some (.slice A k c) := (hb.cell (p := ⟨w.heap.size, 0, none⟩) HC0.out.2).trans HC0.out.1
      go_wp2_with fail
      go_ret
      exact ⟨_, rfl, row_base (ksz HB0.out) HO.out, ktr HB0.out hb⟩
/-- what KeysOfLabel answers -/
def klS (L : List En) (q : ByteArray) : List ByteArray := if okLib L then ksTo L (hitB (labels (bases L)) (bases L) q) L.length else []
def KlP (L : List En) (q : ByteArray) (w : World) (e : Ending) (w' : World) : Prop := ∃ v, e = .returned (.tuple #[v, .bool (okLib L)]) ∧ w'.ownsRow w.heap.size 9 1 v (klS L q).length ((klS L q).map Value.string) ∧ Kp w w'
theorem klS_kk {L M : List En} (q : ByteArray) (h : L.map En.key4 = M.map En.key4) : klS L q = klS M q := by
  have hl : L.length = M.length := len_of_key4 h
  unfold klS
  rw [okLib_k h, bases_kk h, hl]
  congr 1
  unfold ksTo
  congr 1
  funext j
  have hj := congrArg (fun l => (l[j]?).map (fun k => k.1)) h
  simp only [List.getElem?_map, Option.map_map] at hj
  have e : ∀ K : List En, (K[j]?).map ((fun k => k.1) ∘ En.key4) = (K[j]?).map En.key := fun K => rfl
  rw [e, e] at hj
  rw [hj]
theorem klS_len (L : List En) (q : ByteArray) : (klS L q).length ≤ 8 := by
  unfold klS
  split
  · rename_i hok
    unfold okLib at hok
    rw [Bool.and_eq_true] at hok
    exact Nat.le_trans (ksTo_len _ _ _) (of_decide_eq_true hok.1)
  · exact Nat.zero_le _
set_option maxRecDepth 100000 in
set_option maxHeartbeats 8000000 in
theorem implK (A : Option Addr) (c N : Nat) (L : List En) (q : ByteArray) (w : World) (h : RdE w A L) (hn : L.length = N) (hm : N ≤ 1048576) (hz : ∀ x ∈ L, x.sz ≤ 1048576) (ht : Tab w) :
    Calls Tryz.prog 8 #[.agg #[.slice A N c], .string q] w (KlP L q w) := by
  have hb0 : Kp w ((w.alloc (.cells #[.slice A N c] 31)).alloc (.cells #[.string q] 9)) := kal (kal (kre _) _) _
  have hc0 : ((w.alloc (.cells #[.slice A N c] 31)).alloc (.cells #[.string q] 9)).cell? ⟨w.heap.size, 0, none⟩ = some (.slice A N c) := by
    have h1 : (w.alloc (.cells #[.slice A N c] 31)).cell? ⟨w.heap.size, 0, none⟩ = some (.slice A N c) := by simp
    exact ((kal (kre (w.alloc (.cells #[.slice A N c] 31))) (.cells #[.string q] 9)).cell (p := ⟨w.heap.size, 0, none⟩) (by simp)).trans h1
  have hc1 : ((w.alloc (.cells #[.slice A N c] 31)).alloc (.cells #[.string q] 9)).cell? ⟨w.heap.size + 1, 0, none⟩ = some (.string q) := by simp
  have hs0 : w.heap.size + 1 < ((w.alloc (.cells #[.slice A N c] 31)).alloc (.cells #[.string q] 9)).heap.size := by simp
  have HV := Lib.hid (isValidL A c N L _ (h.below hb0) hn hm hz)
  unfold KlP
  by_cases hok : okLib L = true
  · obtain ⟨h8, hF⟩ := fit_of hok hz h
    have HE : Hid (klS L q = ksTo L (hitB (labels (bases L)) (bases L) q) N) := Lib.hid (by rw [← hn]; exact if_pos hok)
    rw [HE.out, hok]
    rw [hok] at HV
    rw [hn] at h8
    have HS := Lib.hid (fun w' (hk : Kp w w') => bases_i A c N L w' (h.below hk) hn h8 hF (ht.below hk))
    have hbl := (bases_len L).trans hn
    have hbm := bases_mem hF
    have HW := Lib.hid (fun (b7 b3 b6 : Nat) (p : Nat → Bool) (W : World) (hk : Kp w W) hp => where_i A c N L b7 b3 b6 p W (h.below hk) hn h8 hp)
    generalize bases L = bs at *
    have hll : (labels bs).length = N := (labels_len bs).trans hbl
    have HL := Lib.hid (fun (A : Option Addr) (c : Nat) (w : World) (h : RdS w A bs) => labels_i A c N bs w h hbl h8 hbm)
    have HH := Lib.hid (fun (b7 b3 b6 k : Nat) (A7 : Option Addr) (c7 : Nat) (A6 : Option Addr) (c6 : Nat) (W : World) h7 h3 h6 r7 r6 (hk : k < N) => hit_i b7 b3 b6 k N A7 c7 A6 c6 (labels bs) bs q W h7 h3 h6 r7 r6 hll hbl hk h8)
    have HBl := Lib.hid hbl
    generalize labels bs = ls at *
    have HLl := Lib.hid hll
    have hmf := @run_mf Tryz.prog
    clear h hn hz hF hok ht hbl hbm hll
    go_enter Tryz.func8, Tryz.ntmps8
    go_wp2_with fail
    generalize (w.alloc (.cells #[.slice A N c] 31)).alloc (.cells #[.string q] 9) = w0 at hb0 hc0 hc1 hs0 HV ⊢
    have HC : Hid (∀ W, Kp w0 W → W.cell? ⟨w.heap.size, 0, none⟩ = some (.slice A N c) ∧ W.cell? ⟨w.heap.size + 1, 0, none⟩ = some (.string q)) := Lib.hid (fun W k => ⟨(k.cell (p := ⟨w.heap.size, 0, none⟩) (by show w.heap.size < _; omega)).trans hc0, (k.cell (p := ⟨w.heap.size + 1, 0, none⟩) hs0).trans hc1⟩)
    have HB0 := Lib.hid hb0
    clear hc0 hc1 hs0 hb0
    refine HV.out.mono ?_
    rintro e w1 ⟨rfl, k1⟩
    have hc1 := (HC.out _ k1).1
    clear HV
    go_wp2_with fail
    refine (HS.out w1 (ktr HB0.out k1)).mono ?_
    rintro e w2 ⟨v, rfl, o2, b2⟩
    obtain ⟨A6, c6, hv, -, r6, -⟩ := own_rds o2
    rw [HBl.out] at hv
    subst hv
    have k2 := ktr k1 b2
    have B3 : Kp w2 (w2.alloc (.cells #[.slice A6 N c6] 26)) := kal (kre _) _
    have x3 := (box1 w2 (.slice A6 N c6) 26).1
    have y3 : w2.heap.size < (w2.alloc (.cells #[.slice A6 N c6] 26)).heap.size := by simp
    have R6 := Lib.hid r6
    clear b2 o2 k1 hc1
    go_upto_region 4 with fail
    generalize w2.alloc _ = w3 at B3 x3 y3 ⊢
    have k3 := ktr k2 B3
    have HX : Hid (∀ W, Kp w3 W → W.cell? ⟨w2.heap.size, 0, none⟩ = some (.slice A6 N c6)) := Lib.hid (fun W k => (k.cell (p := ⟨w2.heap.size, 0, none⟩) y3).trans x3)
    have R63 := Lib.hid (rds_kp R6.out B3)
    clear y3 B3 R6 k2
    go_wp2_with fail
    refine (HL.out A6 c6 w3 R63.out).mono ?_
    rintro e w4 ⟨v, rfl, o4, b4⟩
    obtain ⟨A7, c7, hv, -, r7, -⟩ := own_rds o4
    rw [HLl.out] at hv
    subst hv
    have k4 := ktr k3 b4
    have B5 : Kp w4 (w4.alloc (.cells #[.slice A7 N c7] 26)) := kal (kre _) _
    have x5 := (box1 w4 (.slice A7 N c7) 26).1
    have y5 : w4.heap.size < (w4.alloc (.cells #[.slice A7 N c7] 26)).heap.size := by simp
    have R7 := Lib.hid r7
    have h35 := ktr b4 B5
    clear o4 b4 k3
    go_upto_region 5 with fail
    generalize w4.alloc _ = w5 at B5 x5 y5 h35 ⊢
    have k5 := ktr k4 B5
    have HX7 : Hid (∀ W, Kp w5 W → W.cell? ⟨w4.heap.size, 0, none⟩ = some (.slice A7 N c7)) := Lib.hid (fun W k => (k.cell (p := ⟨w4.heap.size, 0, none⟩) y5).trans x5)
    have R75 := Lib.hid (rds_kp R7.out B5)
    have H35 := Lib.hid h35
    have hc5 := (HC.out _ k5).1
    have HK5 := Lib.hid k5
    clear x5 y5 B5 R7 k4 h35 k5
    go_wp2_with fail
    refine (HW.out w4.heap.size (w.heap.size + 1) w2.heap.size (hitB ls bs q) w5 (ktr HB0.out HK5.out) (fun W k hk hlt => HH.out _ _ _ k A7 c7 A6 c6 W (HX7.out W hk) (HC.out W (ktr HK5.out hk)).2 (HX.out W (ktr H35.out hk)) (rds_kp R75.out hk) (rds_kp R63.out (ktr H35.out hk)) hlt)).mono ?_
    rintro e w6 ⟨v, rfl, o6, b6⟩
    have kf := ktr (ktr HB0.out HK5.out) b6
    have HO := Lib.hid (row_base (ksz (ktr HB0.out HK5.out)) o6)
    clear o6 b6
    go_wp2_with fail
    go_ret2
    exact ⟨_, rfl, HO.out, kf⟩
  · have hok' : okLib L = false := by simpa using hok
    have HE : Hid (klS L q = []) := Lib.hid (if_neg hok)
    rw [HE.out, hok']
    rw [hok'] at HV
    clear h hn hz hok hok' hc0 hc1
    go_enter Tryz.func8, Tryz.ntmps8
    go_wp2_with fail
    generalize (w.alloc (.cells #[.slice A N c] 31)).alloc (.cells #[.string q] 9) = w0 at hb0 hs0 HV ⊢
    refine HV.out.mono ?_
    rintro e w1 ⟨rfl, b1⟩
    have k1 : Kp w w1 := ktr hb0 b1
    clear b1 HV hs0 hb0
    go_wp2_with fail
    go_ret2
    exact ⟨_, rfl, row_base (ksz k1) (by have h9 := World.ownsRow_lit (base := w1.heap.size) (e := 9) (size := 1) w1 #[] 0 (Nat.le_refl _) (Nat.zero_le _) rfl; simpa using h9), kal k1 _⟩
set_option maxRecDepth 100000 in
set_option maxHeartbeats 16000000 in
theorem specK (A : Option Addr) (c N : Nat) (L : List En) (q : ByteArray) (w : World) (h : RdE w A L) (hn : L.length = N) (hm : N ≤ 1048576) (hz : ∀ x ∈ L, x.sz ≤ 1048576) :
    Calls Tryz.prog 6 #[.agg #[.slice A N c], .string q] w (KlP L q w) := by
  obtain ⟨i0, hi, hz0, hz1', hz2⟩ := info_parts infoStr
  have hb0 : Kp w (w.alloc (.cells #[.slice A N c] 31)) := kal (kre _) _
  have hc0 : (w.alloc (.cells #[.slice A N c] 31)).cell? ⟨w.heap.size, 0, none⟩ = some (.slice A N c) := by simp
  have hs0 : w.heap.size < (w.alloc (.cells #[.slice A N c] 31)).heap.size := by simp
  have hSZ : (w.alloc (.cells #[.slice A N c] 31)).heap.size = w.heap.size + 1 := by simp
  have HOw : ∀ (W : World) (b : Nat), W.heap.size = b → (W.alloc (.cells #[] 9)).ownsRow W.heap.size 9 1 (.slice (some ⟨b, 0, none⟩) 0 0) 0 [] := fun W b hb => by subst hb; have h9 := World.ownsRow_lit (base := W.heap.size) (e := 9) (size := 1) W #[] 0 (Nat.le_refl _) (Nat.zero_le _) rfl; simpa using h9
  unfold KlP
  have HV : Hid (∀ W, Kp w W → Calls Tryz.prog 17 #[.agg #[.slice A N c]] W fun e w' => e = .returned (.bool (okLib L)) ∧ Kp W w') := Lib.hid (fun W k => l4Good_any A c N L W (h.below k) hn hm hz)
  by_cases hok : okLib L = true
  · obtain ⟨h8, hF⟩ := fit_of hok hz h
    have HE0 : Hid (klS L q = ksTo L (hitB (labels (bases L)) (bases L) q) N) := Lib.hid (by rw [← hn]; exact if_pos hok)
    rw [HE0.out, hok]
    rw [hok] at HV
    rw [hn] at h8
    have HS := Lib.hid (fun w' (hk : Kp w w') => labels_s A c N L w' (h.below hk) hn h8 hF)
    have HRd := Lib.hid (fun w' (hk : Kp w w') => h.below hk)
    have HFt := Lib.hid hF
    have HN := Lib.hid hn
    have HAt := Lib.hid (fun (k : Nat) (x : En) (hx : L[k]? = some x) => bases_at hx)
    have hbl := (bases_len L).trans hn
    generalize bases L = bs at *
    have hll : (labels bs).length = N := (labels_len bs).trans hbl
    generalize labels bs = ls at *
    have HLl := Lib.hid hll
    clear h hn hz hF hok hbl hll HE0
    go_enter Tryz.func6, Tryz.ntmps6
    go_wp2_with fail
    generalize w.alloc (.cells #[.slice A N c] 31) = w0 at hb0 hc0 hs0 hSZ ⊢
    have HC : Hid (∀ W, Kp w0 W → W.cell? ⟨w.heap.size, 0, none⟩ = some (.slice A N c)) := Lib.hid (fun W k => (k.cell (p := ⟨w.heap.size, 0, none⟩) hs0).trans hc0)
    have HB0 := Lib.hid hb0
    have ho1 := HOw w0 _ hSZ
    have k1 : Kp w0 (w0.alloc (.cells #[] 9)) := kal (kre _) _
    have hz1 : w0.heap.size < (w0.alloc (.cells #[] 9)).heap.size := by simp
    have HSZ := Lib.hid hSZ
    clear hc0 hs0 hb0 HOw hSZ
    generalize w0.alloc (.cells #[] 9) = w1 at ho1 k1 hz1 ⊢
    refine (HV.out w1 (ktr HB0.out k1)).mono ?_
    rintro e w2 ⟨rfl, b2⟩
    have k2 := ktr k1 b2
    have ho2 := own_kp ho1 b2
    have hc2 := HC.out _ k2
    have hz2w : w0.heap.size < w2.heap.size := Nat.lt_of_lt_of_le hz1 (ksz b2)
    clear k1 ho1 b2 HV hz1
    go_wp2_with fail
    refine (HS.out w2 (ktr HB0.out k2)).mono ?_
    rintro e w3 ⟨v, rfl, o3, b3⟩
    obtain ⟨A7, c7, hv, -, -, hA7⟩ := own_rds o3
    rw [HLl.out] at hv o3
    subst hv
    have HR7 := Lib.hid o3.lt
    have H7 := Lib.hid o3
    have K3 := Lib.hid (ktr k2 b3)
    have HO3 := Lib.hid (own_kp ho2 b3)
    clear o3 b3 k2 ho2 hc2 HS hA7
    go_wp2_with fail
    go_loopw [8, 6] (fun i v wr => ∃ k : Nat, k ≤ N ∧ i = .int .i64 k ∧ Hid (wr.ownsRow w0.heap.size 9 1 v (ksTo L (hitB ls bs q) k).length ((ksTo L (hitB ls bs q) k).map Value.string)) ∧ Kp w0 wr ∧ Hid (wr.ownsRow w2.heap.size 9 1 (.slice A7 N c7) N (ls.map Value.string)) ∧ Hid (∀ q, v.ownBlock = some q → q < w2.heap.size ∨ w3.heap.size ≤ q) ∧ w3.heap.size ≤ wr.heap.size) (fun i _ _ => N - (intOf i).toNat)
    case atStart => exact ⟨0, Nat.zero_le _, rfl, by simpa [ksTo] using HO3, K3.out, H7, Lib.hid (fun q hq => by have hq' : w.heap.size + 1 = q := Option.some.inj hq; have := HSZ.out; left; omega), Nat.le_refl _⟩
    case round =>
      obtain ⟨k, hk, rfl, HO, hb, H7r, HVb, hsw⟩ := hrel
      have hl0 := HC.out wr hb
      by_cases hlt : k < N
      · obtain ⟨x, hx⟩ : ∃ x, L[k]? = some x := ⟨_, List.getElem?_eq_getElem (by rw [HN.out]; exact hlt)⟩
        obtain ⟨hr, g, o, rfl, hg, c0, c1, c2, c3, c4, c5, c6, c7, c8, c9, c10, c11, c12, c13⟩ := (HRd.out wr (ktr HB0.out hb)) k x hx
        obtain ⟨f1, f2, f3, f4, f5, f6⟩ := HFt.out x (List.mem_of_getElem? hx)
        have HSk := Lib.hid (HAt.out k x hx)
        have HKs := Lib.hid (ksTo_succ (p := hitB ls bs q) hx)
        obtain ⟨key, kind, auA, auN, auc, auL, edA, edN, edc, edL, ti, co, pu, y, m, d, ci, vol, pa, cr⟩ := x
        dsimp only at c0 c1 c2 c3 c4 c5 c6 c7 c8 c9 c10 c11 c12 c13 f1 f2 f3 f4 f5 f6 HKs
        have HBs := Lib.hid (fun w' (h : Kp wr w') => base_s key kind auA auN auc auL edA edN edc edL ti co pu y m d ci vol pa cr w' (hr.below h) f1 f2 f3 f4 f5)
        generalize ba (baseL (⟨key, kind, auA, auN, auc, auL, edA, edN, edc, edL, ti, co, pu, y, m, d, ci, vol, pa, cr⟩ : En)) = s at *
        obtain ⟨y', hy⟩ : ∃ y', ls[k]? = some y' := ⟨_, List.getElem?_eq_getElem (by rw [HLl.out]; exact hlt)⟩
        obtain ⟨A7', c7b, hv7, -, hR7, -⟩ := own_rds H7r.out
        injection hv7 with hA7 _ hc7
        subst hA7
        subst hc7
        obtain ⟨g7, o7, rfl, c7'⟩ := hR7 k y' hy
        have HHit : Hid (hitB ls bs q k = (decide (y' = q) || decide (s = q))) := Lib.hid (by unfold hitB; rw [hy, HSk.out]; simp)
        have hln : (ksTo L (hitB ls bs q) k).length ≤ 8 := Nat.le_trans (ksTo_len L _ k) (by omega)
        have HB := Lib.hid hb
        have HZ := Lib.hid hsw
        have hsb := ksz hb
        clear hr f1 f2 f3 f4 f5 f6 hx hy hR7
        by_cases e1 : y' = q
        · have hxq : (y'.toList == q.toList) = true := by rw [e1]; simp
          have HE : Hid (ksTo L (hitB ls bs q) (k + 1) = ksTo L (hitB ls bs q) k ++ [key]) := Lib.hid (by rw [HKs.out, HHit.out]; simp [e1])
          clear e1 hb hsw
          go_wp2_with (first | (at_builtin; refine wpList_append_own_at _ rfl _ _ 26 rfl w0.heap.size 9 i0 (.string ByteArray.empty) 1 16 Tryz.underlying26 hi hz0 hz1' hz2 rfl (by decide) _ _ _ rfl (HO.out.alloc _) ⟨wr.heap.size, 0, none⟩ 1 1 [.string key] rfl rfl (cell_one_new _ _ _) (by simp [Value.oneCell']) (by unfold maxLen; omega) (by omega) (by simp; omega) ?_; intro v' w9 hown' hgrow _ hat'))
          have HO4 : Hid (w9.ownsRow w0.heap.size 9 1 v' (ksTo L (hitB ls bs q) (k + 1)).length ((ksTo L (hitB ls bs q) (k + 1)).map Value.string)) := Lib.hid (by rw [HE.out]; exact row_add hown')
          have hb3 : Kp w0 w9 := (HB.out.alloc hsb _).grown hgrow (by simp; omega) (fun q hq => (HO.out.lt q hq).1)
          have HL7 := H7r.out.lt
          have H74 := Lib.hid (own_far (own_kp H7r.out (kal (kre _) _)) hgrow (fun e => by
            have e8 := HVb.out g7 e.symm
            have e9 := HR7.out g7 rfl
            omega))
          have HVb4 : Hid (∀ q, v'.ownBlock = some q → q < w2.heap.size ∨ w3.heap.size ≤ q) := Lib.hid (fun q hq => by
            rcases hat' with e | e
            · exact HVb.out q (e.symm.trans hq)
            · rw [e] at hq
              injection hq with hq
              have : wr.heap.size + 1 = q := by simpa using hq
              have := HZ.out
              right; omega)
          have hs9 : w3.heap.size ≤ w9.heap.size := by have h1 := hgrow.size; have h2 := HZ.out; simp at h1; omega
          go_roundw
          case rel => exact ⟨k + 1, by omega, by go_num, HO4, hb3, H74, HVb4, hs9⟩
          case measure => (simp [intOf] <;> omega)
        · have hxq := ne_s e1
          have HHit2 : Hid (hitB ls bs q k = decide (s = q)) := Lib.hid (by rw [HHit.out, decide_eq_false e1, Bool.false_or])
          clear e1
          have hgb := hg
          go_wp2_with fail
          refine (HBs.out wr (kre _)).mono ?_
          rintro e wz ⟨rfl, bz⟩
          have HBz := Lib.hid (ktr hb bz)
          have HOz := Lib.hid (own_kp HO.out bz)
          have H7z := Lib.hid (own_kp H7r.out bz)
          have hl0 := HC.out wz HBz.out
          have cz := (bz.cell (p := ⟨g, o + k * 14, none⟩) hg).trans c0
          have hsz : w3.heap.size ≤ wz.heap.size := Nat.le_trans hsw (ksz bz)
          have HZz := Lib.hid hsz
          have hsb := ksz HBz.out
          clear c0 c1 c2 c3 c4 c5 c6 c7 c8 c9 c10 c11 c12 c13 c7' bz hb hsw
          by_cases e2 : s = q
          · have hyq : (s.toList == q.toList) = true := by rw [e2]; simp
            have HE : Hid (ksTo L (hitB ls bs q) (k + 1) = ksTo L (hitB ls bs q) k ++ [key]) := Lib.hid (by rw [HKs.out, HHit2.out]; simp [e2])
            clear e2
            go_wp2_with (first | (at_builtin; refine wpList_append_own_at _ rfl _ _ 26 rfl w0.heap.size 9 i0 (.string ByteArray.empty) 1 16 Tryz.underlying26 hi hz0 hz1' hz2 rfl (by decide) _ _ _ rfl (HOz.out.alloc _) ⟨wz.heap.size, 0, none⟩ 1 1 [.string key] rfl rfl (cell_one_new _ _ _) (by simp [Value.oneCell']) (by unfold maxLen; omega) (by omega) (by simp; omega) ?_; intro v' w9 hown' hgrow _ hat'))
            have HO4 : Hid (w9.ownsRow w0.heap.size 9 1 v' (ksTo L (hitB ls bs q) (k + 1)).length ((ksTo L (hitB ls bs q) (k + 1)).map Value.string)) := Lib.hid (by rw [HE.out]; exact row_add hown')
            have hb3 : Kp w0 w9 := (HBz.out.alloc hsb _).grown hgrow (by simp; omega) (fun q hq => (HOz.out.lt q hq).1)
            have HL7 := H7z.out.lt
            have H74 := Lib.hid (own_far (own_kp H7z.out (kal (kre _) _)) hgrow (fun e => by
              have e8 := HVb.out g7 e.symm
              have e9 := HR7.out g7 rfl
              omega))
            have HVb4 : Hid (∀ q, v'.ownBlock = some q → q < w2.heap.size ∨ w3.heap.size ≤ q) := Lib.hid (fun q hq => by
              rcases hat' with e | e
              · exact HVb.out q (e.symm.trans hq)
              · rw [e] at hq
                injection hq with hq
                have : wz.heap.size + 1 = q := by simpa using hq
                have := HZz.out
                right; omega)
            have hs9 : w3.heap.size ≤ w9.heap.size := by have h1 := hgrow.size; have h2 := HZz.out; simp at h1; omega
            go_roundw
            case rel => exact ⟨k + 1, by omega, by go_num, HO4, hb3, H74, HVb4, hs9⟩
            case measure => (simp [intOf] <;> omega)
          · have hyq := ne_s e2
            have HE : Hid (ksTo L (hitB ls bs q) (k + 1) = ksTo L (hitB ls bs q) k) := Lib.hid (by rw [HKs.out, HHit2.out, decide_eq_false e2]; simp)
            clear e2
            go_wp2_with fail
            go_roundw
            case rel => exact ⟨k + 1, by omega, by go_num, by rw [HE.out]; exact HOz, HBz.out, H7z, HVb, hsz⟩
            case measure => (simp [intOf] <;> omega)
      · obtain rfl : k = N := by omega
        go_wp2_with fail
        go_ret2
        exact ⟨_, rfl, row_base (ksz HB0.out) HO.out, ktr HB0.out hb⟩
  · have hok' : okLib L = false := by simpa using hok
    have HE : Hid (klS L q = []) := Lib.hid (if_neg hok)
    rw [HE.out, hok']
    rw [hok'] at HV
    clear h hn hz hok hok' hc0 hs0
    go_enter Tryz.func6, Tryz.ntmps6
    go_wp2_with fail
    generalize w.alloc (.cells #[.slice A N c] 31) = w0 at hb0 hSZ ⊢
    have ho1 := HOw w0 _ hSZ
    have k1 : Kp w0 (w0.alloc (.cells #[] 9)) := kal (kre _) _
    clear HOw hSZ
    generalize w0.alloc (.cells #[] 9) = w1 at ho1 k1 ⊢
    refine (HV.out w1 (ktr hb0 k1)).mono ?_
    rintro e w2 ⟨rfl, b2⟩
    have kf := ktr (ktr hb0 k1) b2
    have HO := Lib.hid (row_base (ksz hb0) (own_kp ho1 b2))
    clear b2 k1 ho1 HV
    go_wp2_with fail
    go_ret2
    exact ⟨_, rfl, HO.out, kf⟩
end Go.Proofs.YtbicfmoemgaapaaGreatDoor.La
