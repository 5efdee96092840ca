/-
  Contracts of dropArticle, isArticle, l8Drop and DropArticle of both: they return a text without its article.
-/
import Derived.Test.YtmopncojgkmkpaaGreatDoorFo
import Derived.Test.YtmopncojgkmkpaaGreatDoorDrL
import Derived.Test.YtmopncojgkmkpaaGreatDoorCut
import Derived.Deep.RegionHeld3
import Derived.Deep.QuietTactic
import Derived.BigQuiet
namespace Go.Proofs.YtmopncojgkmkpaaGreatDoor.Fo
open Go.RowKit Pl NmPl Word FoPl Stands SplitPl Cut
set_option linter.unusedVariables false
set_option linter.unusedSimpArgs false

/-- the library's tables of cases and of first bytes lie as laid -/
def CaT (w : World) : Prop := Lib.CaseVar 2 Lib.caseA w ∧ Lib.Utf8Tabs 3 4 w
theorem art_eq (x : List UInt8) : artW x = (((ba x).toList == [97]) || (((ba x).toList == [97, 110]) || ((ba x).toList == [116, 104, 101]))) := by
  rw [Lib.toList_data, toList_ba]; rfl
theorem article_i (x : List UInt8) (r : Bool) (hr : artW x = r) (w : World) :
    Calls Tryz.prog 67 #[.string (ba x)] w fun e w' => e = .returned (.bool r) ∧ w = w' := by
  have HE : Hid (r = (((ba x).toList == [97]) || (((ba x).toList == [97, 110]) || ((ba x).toList == [116, 104, 101])))) := Lib.hid (by rw [← hr, art_eq])
  clear hr
  generalize ba x = X at *
  cases e1 : (X.toList == [97]) <;> cases e2 : (X.toList == [97, 110]) <;> cases e3 : (X.toList == [116, 104, 101]) <;>
  · rw [e1, e2, e3] at HE
    go_enter Tryz.func67, Tryz.ntmps67
    go_wp2
    go_ret
    exact ⟨by rw [HE.out]; rfl, rfl⟩
theorem hd_no (l : List UInt8) : ∀ c ∈ hd 32 l, c ≠ 32 := by
  intro c hc
  have := List.all_eq_true.1 (List.all_takeWhile (p := (· != (32 : UInt8))) (l := l)) c hc
  simpa using this
theorem drop_yes {l : List UInt8} (h : stB 32 l = true) : drA l = if artW ((hd 32 l).map Lib.lowerB) = true then rest 32 l else l := by
  have e := hd_rest h
  have k := drA_cut (q := rest 32 l) (hd_no l)
  rw [← e] at k
  exact k
theorem drop_no {l : List UInt8} (h : stB 32 l = false) : drA l = l := drA_none fun c hc => by have := free_mem h c hc; simpa using this
theorem hd_le (b : UInt8) (l : List UInt8) : (hd b l).length ≤ l.length := (List.takeWhile_prefix _).length_le

set_option maxRecDepth 100000 in
set_option maxHeartbeats 4000000 in
theorem drop_i (s : ByteArray) (w : World) (hs : s.size ≤ 1048576) (hT : CaT w) :
    Calls Tryz.prog 42 #[.string s] w fun e w' => e = .returned (.string (ba (drA s.data.toList))) ∧ Below w.heap.size w w' := by
  cases h : stB 32 s.data.toList with
  | false =>
    have HC := Lib.hid (cut_no s 32 w h)
    have HE : Hid (s = ba (drA s.data.toList)) := Lib.hid (by rw [drop_no h]; exact (ba_toList s).symm)
    clear h hT
    go_enter Tryz.func42, Tryz.ntmps42
    go_wp2_with fail
    refine HC.out.mono ?_
    rintro e w1 ⟨rfl, rfl⟩
    go_wp2_with fail
    go_ret
    exact ⟨by rw [← HE.out]; rfl, Below.refl _ _⟩
  | true =>
    have HC := Lib.hid (cut_yes s 32 w (by unfold maxLen; omega) h)
    have hle := hd_le 32 s.data.toList
    rw [len_size] at hle
    have HL := Lib.hid (fun q => Tryz.strings_ToLower_any (ba (hd 32 s.data.toList)) (w.drewN q) (by rw [ba_size]; omega) hT.1 hT.2)
    rw [toList_ba] at HL
    have HD := Lib.hid (drop_yes h)
    rw [← art_low] at HD
    clear h hT
    cases ha : artW (Lib.toLowerD (hd 32 s.data.toList)) with
    | true =>
      have HA := Lib.hid (fun w => article_i _ true ha w)
      rw [ha, if_pos rfl] at HD
      clear ha hle
      generalize Lib.toLowerD (hd 32 s.data.toList) = Y at *
      generalize hd 32 s.data.toList = X at *
      go_enter Tryz.func42, Tryz.ntmps42
      go_wp2_with fail
      refine HC.out.mono ?_
      rintro e w1 ⟨rfl, q, rfl⟩
      go_wp2_with fail
      refine (HL.out q).mono ?_
      rintro e w2 ⟨rfl, b2⟩
      go_wp2_with fail
      refine (HA.out _).mono ?_
      rintro e w3 ⟨rfl, rfl⟩
      go_wp2_with fail
      go_ret
      exact ⟨by rw [HD.out]; rfl, (show Below w.heap.size w (w.drewN q) from ⟨rfl, rfl, rfl, Nat.le_refl _, fun _ _ => rfl⟩).trans b2⟩
    | false =>
      have HA := Lib.hid (fun w => article_i _ false ha w)
      rw [ha, if_neg Bool.false_ne_true] at HD
      clear ha hle
      generalize Lib.toLowerD (hd 32 s.data.toList) = Y at *
      generalize hd 32 s.data.toList = X at *
      go_enter Tryz.func42, Tryz.ntmps42
      go_wp2_with fail
      refine HC.out.mono ?_
      rintro e w1 ⟨rfl, q, rfl⟩
      go_wp2_with fail
      refine (HL.out q).mono ?_
      rintro e w2 ⟨rfl, b2⟩
      go_wp2_with fail
      refine (HA.out _).mono ?_
      rintro e w3 ⟨rfl, rfl⟩
      go_wp2_with fail
      go_ret
      exact ⟨by rw [HD.out, ba_toList]; rfl, (show Below w.heap.size w (w.drewN q) from ⟨rfl, rfl, rfl, Nat.le_refl _, fun _ _ => rfl⟩).trans b2⟩

def wordsC : Array Value := #[.string ⟨#[97, 32]⟩, .string ⟨#[97, 110, 32]⟩, .string ⟨#[116, 104, 101, 32]⟩]
theorem wordsC_at (w : World) (t : TypeId) (k : Nat) (x : List UInt8) (hx : artWs[k]? = some x) : (w.alloc (.cells wordsC t)).cell? ⟨w.heap.size, k, none⟩ = some (.string (ba x)) := by
  rw [World.cell?_alloc_mark]
  match k, hx with
  | 0, hx => cases hx; rfl
  | 1, hx => cases hx; rfl
  | 2, hx => cases hx; rfl
  | k + 3, hx => cases hx
theorem artWs_len {k : Nat} {x : List UInt8} (hx : artWs[k]? = some x) : x.length ≤ 4 := by
  match k, hx with
  | 0, hx => cases hx; decide
  | 1, hx => cases hx; decide
  | 2, hx => cases hx; decide
  | k + 3, hx => cases hx
theorem begins_low (s : ByteArray) (x : List UInt8) : ((ba (Lib.toLowerA (s.extract 0 x.length).data.toList)).toList == (ba x).toList) = begins s.data.toList x := by
  rw [Lib.toList_data, Lib.toList_data, toList_ba, toList_ba, extract_take, toList_ba]
  rw [Bool.eq_iff_iff, beq_iff_eq]
  unfold begins
  rw [decide_eq_true_eq]
  rfl
set_option maxRecDepth 100000 in
set_option maxHeartbeats 4000000 in
theorem drop_s (s : ByteArray) (w : World) (hs : s.size ≤ 1048576) :
    Calls Tryz.prog 28 #[.string s] w fun e w' => e = .returned (.string (ba (drA s.data.toList))) ∧ Below w.heap.size w w' := by
  have HC0 := Lib.hid (fun k x hx => wordsC_at w 9 k x hx)
  have HB0 := Lib.hid ((Below.refl _ w).alloc (Nat.le_refl _) (.cells wordsC 9))
  unfold wordsC at HC0 HB0
  go_enter Tryz.func28, Tryz.ntmps28
  go_wp2_with fail
  go_loopw [4] (fun i wr => ∃ k : Nat, k ≤ 3 ∧ i = .int .i64 k ∧ Hid (∀ (j : Nat) (y : List UInt8), j < k → artWs[j]? = some y → begins s.data.toList y = false) ∧ Hid (∀ (k : Nat) (x : List UInt8), artWs[k]? = some x → wr.cell? ⟨w.heap.size, k, none⟩ = some (.string (ba x))) ∧ Below w.heap.size w wr) (fun i _ => 3 - (intOf i).toNat)
  case atStart => exact ⟨0, by omega, rfl, Lib.hid (fun j y hj => by omega), HC0, HB0.out⟩
  case round =>
    obtain ⟨k, hk, rfl, HN, HC, hb⟩ := hrel
    by_cases hlt : k < 3
    · obtain ⟨x, hx⟩ : ∃ x, artWs[k]? = some x := ⟨_, List.getElem?_eq_getElem (show k < artWs.length from hlt)⟩
      have hc := HC.out k _ hx
      have hx4 := artWs_len hx
      have HX := Lib.hid hx
      have HBe := Lib.hid (begins_low s x)
      have HSt := Lib.hid (fun (W : World) (h : (s.extract 0 x.length).size ≤ 1048576) => Low.l2Low (s.extract 0 x.length) W h)
      have HSh := Lib.hid (fun h => begins_short (l := s.data.toList) (x := x) h)
      have HDh := Lib.hid (fun hm => drA_hit (l := s.data.toList) hx HN.out hm)
      clear hx
      have hz : (ba x).size = x.length := ba_size x
      have HEx : Hid (x.length ≤ s.size → (s.extract 0 x.length).size ≤ 1048576) := Lib.hid (fun _ => by rw [ByteArray.size_extract]; omega)
      have HTl : Hid (s.extract x.length s.size = ba (s.data.toList.drop x.length)) := Lib.hid (extract_drop s _)
      have HNx : Hid (begins s.data.toList x = false → ∀ (j : Nat) (y : List UInt8), j < k + 1 → artWs[j]? = some y → begins s.data.toList y = false) := Lib.hid (fun h j y hj hy => by
        rcases Nat.lt_or_ge j k with hlt | hge
        · exact HN.out j y hlt hy
        · obtain rfl : j = k := by omega
          rw [HX.out] at hy; cases hy; exact h)
      change Hid (∀ W, _ → Calls _ _ _ W fun e w' => e = .returned (.string (ba (Lib.toLowerA (s.extract 0 x.length).data.toList))) ∧ _) at HSt
      generalize ba (Lib.toLowerA (s.extract 0 x.length).data.toList) = T at *
      generalize begins s.data.toList x = mt at *
      obtain ⟨X, hXe⟩ : ∃ X, X = ba x := ⟨_, rfl⟩
      rw [← hXe] at hc hz HBe
      generalize x.length = n at *
      subst hz
      by_cases hle : X.size ≤ s.size
      · have HSt' := Lib.hid (fun W => HSt.out W (HEx.out hle))
        have hdl : decide (X.size ≤ s.size) = true := by simpa using hle
        have HS : Hid (∀ w', Below wr.heap.size wr w' → (w'.cell? ⟨w.heap.size, k, none⟩ = some (.string X) ∧ Below wr.heap.size wr w')) := Lib.hid (fun w' h => ⟨(h.cell (World.block_lt_of_cell? wr _ hc)).trans hc, h⟩)
        have HK0 : Hid (Below wr.heap.size wr wr.drew) := Lib.hid ((Below.refl _ _).drew)
        have hbe := HBe.out
        clear HEx HSt HSh HC0 HB0 HX hXe
        cases mt with
        | true =>
          have HD := Lib.hid (HDh.out rfl)
          clear HDh HNx HN
          go_wp2_with fail
          go_region_held3 (fun w' => w'.cell? ⟨w.heap.size, k, none⟩ = some (.string X) ∧ Below wr.heap.size wr w')
            (first | exact HS.out _ HK0.out | exact HS.out _ (by assumption))
            (first
              | (go_at_call 52; with_reducible refine (HSt'.out _).mono ?_; rintro e w1 ⟨rfl, b1⟩; have hk1 : Below wr.heap.size wr w1 := HK0.out.trans (b1.mono (Nat.le_refl _))))
          go_wp2_with fail
          go_ret
          exact ⟨by rw [HD.out, ← HTl.out]; rfl, hb.trans (hk1.mono hb.size)⟩
        | false =>
          have HN' := Lib.hid (HNx.out rfl)
          clear HDh HNx HN
          go_wp2_with fail
          go_region_held3 (fun w' => w'.cell? ⟨w.heap.size, k, none⟩ = some (.string X) ∧ Below wr.heap.size wr w')
            (first | exact HS.out _ HK0.out | exact HS.out _ (by assumption))
            (first
              | (go_at_call 52; with_reducible refine (HSt'.out _).mono ?_; rintro e w1 ⟨rfl, b1⟩; have hk1 : Below wr.heap.size wr w1 := HK0.out.trans (b1.mono (Nat.le_refl _))))
          have hb1 := hb.trans (Below.mono hk1 hb.size)
          have HC1 : Hid (∀ (k : Nat) (x : List UInt8), artWs[k]? = some x → w1.cell? ⟨w.heap.size, k, none⟩ = some (.string (ba x))) := Lib.hid (fun k x hx => (hk1.cell (World.block_lt_of_cell? wr _ (HC.out k x hx))).trans (HC.out k x hx))
          clear HS HK0 hk1 b1
          (try clear hHeld)
          go_wp2_with fail
          go_roundw
          case rel => exact ⟨k + 1, by omega, by go_num, HN', HC1, hb1⟩
          case measure => simp [intOf]; omega
      · have hdl : decide (X.size ≤ s.size) = false := by simpa using hle
        have hge : decide ((s.size : Int) ≥ (X.size : Int)) = false := by simp; omega
        have hge2 : ((s.size : Int) ≥ (X.size : Int)) = False := by simp; omega
        have HN' := Lib.hid (HNx.out (HSh.out (by rw [len_size]; omega)))
        have HS : Hid (∀ w', Below wr.heap.size wr w' → (w'.cell? ⟨w.heap.size, k, none⟩ = some (.string X) ∧ Below wr.heap.size wr w')) := Lib.hid (fun w' h => ⟨(h.cell (World.block_lt_of_cell? wr _ hc)).trans hc, h⟩)
        have HK0 : Hid (Below wr.heap.size wr wr.drew) := Lib.hid ((Below.refl _ _).drew)
        clear HDh HNx HN HEx HSt HSh HC0 HB0 HX hXe HBe
        go_wp2_with fail
        go_quiet (fail)
        go_wp2_with fail
        go_roundw
        case rel => exact ⟨k + 1, by omega, by go_num, HN', HC, hb.trans ⟨rfl, rfl, rfl, Nat.le_refl _, fun _ _ => rfl⟩⟩
        case measure => simp [intOf]; omega
    · obtain rfl : k = 3 := by omega
      have HE : Hid (drA s.data.toList = s.data.toList) := Lib.hid (drA_miss HN.out)
      go_wp2_with fail
      go_ret
      exact ⟨by rw [HE.out, ba_toList]; rfl, hb⟩
end Go.Proofs.YtmopncojgkmkpaaGreatDoor.Fo
