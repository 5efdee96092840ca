/-
  Drawing functions of chapter 6: title, DrawIsValidTitle, DrawTitleCase. Only a bound of the text's size is told.
-/
import Derived.Test.YtobjfmchnlnohaaGreatDoorDw
import Derived.Test.YtobjfmchnlnohaaGreatDoorJo
namespace Go.Proofs.YtobjfmchnlnohaaGreatDoor.Dw
open Go.RowKit Pl Cur Draw0 Cs Jo TiPl SplitPl
set_option linter.unusedVariables false
set_option linter.unusedSimpArgs false

theorem grown_alloc {w wr : World} {row : Option Nat} (h : w.grownBy wr row) (o : Obj) : w.grownBy (wr.alloc o) row :=
  ⟨h.os, h.tape, h.output, Nat.le_trans h.size (by simp), fun k hk hr => (Below.heap_alloc wr o k (Nat.lt_of_lt_of_le hk h.size)).trans (h.block k hk hr)⟩
/-- what is drawn so far: the cursor, the list, and that nothing old has changed but the cursor -/
structure DT (w wr : World) (g : Nat) (A : Option Addr) (n c : Nat) (v : Value) (xs : List (List UInt8)) (k0 km : Nat) : Prop where
  cur : ∃ k s, k ≤ k0 + km ∧ IsCur wr g A n c k s
  row : wr.ownsRow w.heap.size 9 1 v xs.length (cs xs)
  grown : w.grownBy wr (some g)
  small : off xs ≤ 17 * xs.length
theorem DT.left {w wr w' : World} {g n c k0 km k m : Nat} {A : Option Addr} {v : Value} {xs : List (List UInt8)} (h : DT w wr g A n c v xs k0 km) (hg0 : g < w.heap.size) (hk : k ≤ k0 + km) (hl : LeftC wr g A n c k m w') : DT w w' g A n c v xs k0 (km + m) := by
  obtain ⟨⟨k', s', hk', hc'⟩, hg⟩ := hl
  refine ⟨⟨k', s', by omega, hc'⟩, h.row.kept hg ?_, grown_trans h.grown hg, h.small⟩
  rcases hb : v.ownBlock with _ | j
  · exact .inl rfl
  · refine .inr fun e => ?_
    have := (h.row.lt j hb).1
    simp at e
    omega
theorem DT.alloc {w wr : World} {g n c k0 km : Nat} {A : Option Addr} {v : Value} {xs : List (List UInt8)} (h : DT w wr g A n c v xs k0 km) (o : Obj) : DT w (wr.alloc o) g A n c v xs k0 km := by
  obtain ⟨k, s, hk, hc⟩ := h.cur
  exact ⟨⟨k, s, hk, hc.alloc o⟩, h.row.alloc o, (grown_alloc h.grown o), h.small⟩
theorem DT.append {w wr w1 : World} {g n c k0 km : Nat} {A : Option Addr} {v v' : Value} {xs : List (List UInt8)} {x : List UInt8} (h : DT w wr g A n c v xs k0 km) (hg0 : g < w.heap.size) (hx : x.length ≤ 16)
    (hown : w1.ownsRow w.heap.size 9 1 v' (xs.length + 1) (cs xs ++ [.string (ba x)])) (hg : wr.grownBy w1 v.ownBlock) : DT w w1 g A n c v' (xs ++ [x]) k0 km := by
  obtain ⟨k, s, hk, hc⟩ := h.cur
  refine ⟨⟨k, s, hk, (hg.block g hc.lt ?_).trans hc⟩, by rw [cs_snoc, List.length_append]; exact hown, ?_, ?_⟩
  · intro e
    have := (h.row.lt g e.symm).1
    omega
  · refine ⟨hg.os.trans h.grown.os, hg.tape.trans h.grown.tape, hg.output.trans h.grown.output, Nat.le_trans h.grown.size hg.size, fun j hj hr => (hg.block j (Nat.lt_of_lt_of_le hj h.grown.size) ?_).trans (h.grown.block j hj hr)⟩
    intro e
    have := (h.row.lt j e.symm).1
    omega
  · rw [off_snoc, List.length_append]
    have := h.small
    simp
    omega

def strSz : Value → Nat
  | .string x => x.size
  | _ => 0

set_option maxRecDepth 100000 in
set_option maxHeartbeats 4000000 in
theorem title_any (g : Nat) (A : Option Addr) (n c k : Nat) (s : Int) (w : World) (hk : k ≤ 1000000) (hn : n ≤ 1048576) (hcur : IsCur w g A n c k s) (hr : RdB w A n) (ha : Apart A n g) :
    Calls Tryz.prog 17 #[.pointer (some ⟨g, 0, none⟩)] w (SomeStr (fun y => y.size ≤ 200) w g A n c k 300) := by
  obtain ⟨i0, hi, hz0, hz1, hz2⟩ := info_parts infoStr
  have HR := Lib.hid hr
  have HA := Lib.hid ha
  have hgl : g < w.heap.size := hcur.lt
  have hown0 := World.ownsRow_lit (base := w.heap.size) (e := 9) (size := 1) w #[] 0 (Nat.le_refl _) (Nat.zero_le _) rfl
  have HD0 : Hid (DT w (w.alloc (.cells #[] 9)) g A n c (.slice (some ⟨w.heap.size, 0, none⟩) 0 0) [] k 0) := Lib.hid ⟨⟨k, s, by omega, hcur.alloc _⟩, hown0, grown_alloc (World.grownBy.refl _ _) _, by simp [off]⟩
  clear hr ha hown0 hcur
  go_enter Tryz.func17, Tryz.ntmps17
  go_wp2_with fail
  generalize w.alloc _ = w0 at HD0 ⊢
  obtain ⟨kc, sc, hkc, hcur⟩ := HD0.out.cur
  refine (pick_any 6 (by omega) (by omega) g A n c kc sc _ (by omega) hn hcur (HR.out.grown HA.out HD0.out.grown) HA.out).mono ?_
  rintro e w1 ⟨r, rfl, hr0, hr1, hl⟩
  have HD1 := Lib.hid (HD0.out.left hgl hkc hl)
  obtain ⟨m, rfl⟩ := Int.eq_ofNat_of_zero_le hr0
  have hm : m ≤ 5 := by omega
  have hw1 : IntKind.i64.wrap (1 + (m : Int)) = ((m + 1 : Nat) : Int) := by rw [IntWalk.i64_in _ (by omega)]; omega
  clear hr0 hr1 hl hcur HD0 hkc
  go_wp2_with fail
  go_loopw [3, 4] (fun v i wr => ∃ (q : Nat) (xs : List (List UInt8)), i = .int .i64 q ∧ xs.length + q ≤ 6 ∧ Hid (DT w wr g A n c v xs k (2 + 2 * xs.length))) (fun _ i _ => (intOf i).toNat)
  case atStart => exact ⟨m + 1, [], by go_num, by simp; omega, HD1⟩
  case round =>
    obtain ⟨q, xs, rfl, hxl, HJ⟩ := hrel
    obtain ⟨kc, sc, hkc, hcur⟩ := HJ.out.cur
    have HCu := Lib.hid hcur
    clear hcur
    have HRr := Lib.hid (HR.out.grown HA.out HJ.out.grown)
    by_cases hlt : 0 < q
    · have hw2 : IntKind.i64.wrap ((q : Int) - 1) = ((q - 1 : Nat) : Int) := by rw [IntWalk.i64_in _ (by omega)]; omega
      have hlt' : (0 : Int) < (q : Int) := by omega
      go_wp2_with fail
      refine (titleWord_any g A n c kc sc _ (by omega) hn HCu.out HRr.out HA.out).mono ?_
      rintro e w2 ⟨x, hx, rfl, hl⟩
      have HJ2 := Lib.hid (HJ.out.left hgl hkc hl)
      clear hl
      have hbs : w.heap.size ≤ w2.heap.size := HJ2.out.grown.size
      obtain ⟨xl, rfl⟩ : ∃ l, x = ba l := ⟨x.data.toList, (ba_toList x).symm⟩
      have hxl2 : xl.length ≤ 16 := by rw [ba_size] at hx; exact hx
      go_wp2_with (first
        | (at_builtin; refine wpList_append_own _ rfl _ _ 26 rfl w.heap.size 9 i0 (.string ByteArray.empty) 1 16 Tryz.underlying26 hi hz0 hz1 hz2 rfl (by decide) _ _ _ rfl (HJ2.out.row.alloc _) ⟨w2.heap.size, 0, none⟩ 1 1 [.string (ba xl)] rfl rfl (cell_one_new _ _ _) (by simp [Value.oneCell']) (by unfold maxLen; omega) (by omega) (by simp; omega) ?_; intro v' w3 hown' hgrow _)
        | fail)
      go_roundw
      case rel => exact ⟨q - 1, xs ++ [xl], by first | rfl | go_num, by simp; omega, Lib.hid (by have := (HJ2.out.alloc _).append hgl hxl2 hown' hgrow; simpa [Nat.mul_add, Nat.add_assoc] using this)⟩
      case measure => simp [intOf]; omega
    · obtain rfl : q = 0 := by omega
      have hoff : off xs ≤ 102 := by have := HJ.out.small; omega
      have hjz : (ba (jL xs)).size ≤ 102 := by rw [ba_size]; have := jL_len xs; omega
      obtain ⟨A2, c2, rfl, hr2, hA2, hc2⟩ := rd_own HJ.out.row
      have HR2 := Lib.hid hr2
      clear hr2 hA2 hc2
      go_wp2_with fail
      refine (l6Join_any A2 c2 xs.length xs _ HR2.out rfl (by omega)).mono ?_
      rintro e w' ⟨rfl, rfl⟩
      generalize hj : ba (jL xs) = t at *
      clear hj HR2
      go_wp2_with fail
      refine (pick_any 24 (by omega) (by omega) g A n c kc sc _ (by omega) hn HCu.out HRr.out HA.out).mono ?_
      rintro e w2 ⟨r, rfl, hr0, hr1, hl⟩
      have HJ2 := Lib.hid (HJ.out.left hgl hkc hl)
      obtain ⟨r, rfl⟩ := Int.eq_ofNat_of_zero_le hr0
      have HL2 : Hid (LeftC w g A n c k 20 w2) := Lib.hid (by
        obtain ⟨k', s', h1, h2⟩ := HJ2.out.cur
        exact ⟨⟨k', s', by omega, h2⟩, HJ2.out.grown⟩)
      clear hl HCu HRr HJ HJ2 hr0 hkc hoff hxl
      obtain ⟨⟨kd, sd, hkd, hcur2⟩, hgr2⟩ := HL2.out
      have HCu2 := Lib.hid hcur2
      have HRr2 := Lib.hid (HR.out.grown HA.out hgr2)
      clear hcur2 hgr2
      rcases (show r = 0 ∨ r = 1 ∨ r = 2 ∨ r = 3 ∨ 4 ≤ r by omega) with rfl | rfl | rfl | rfl | h4
      · go_wp2_with fail
        refine (spoilt_any t ⟨#[123, 125, 58, 32, 97, 66]⟩ (by omega) (by decide) (by decide) g A n c kd sd _ (by omega) hn HCu2.out HRr2.out HA.out).mono ?_
        rintro e w3 ⟨y, hy, rfl, hl3⟩
        have HL3 := Lib.hid (LeftC.trans (k := k) (k1 := kd) (m := 20) (by omega) HL2.out.2 hl3)
        clear hl3
        go_wp2_with fail
        go_ret
        obtain ⟨⟨k', s', h1, h2⟩, h3⟩ := HL3.out
        exact ⟨_, by omega, rfl, ⟨k', s', by omega, h2⟩, h3⟩
      · go_wp2_with fail
        refine (of_any (fun x => x.size ≤ 2) _ _ 6 [⟨#[32]⟩, ⟨#[123]⟩, ⟨#[125]⟩, ⟨#[123, 125]⟩, ⟨#[9]⟩, ⟨#[58, 32]⟩] (by decide) rfl (by omega) (by omega) g (Nat.ne_of_gt HCu2.out.lt) A n c kd sd _ (by omega) hn (HCu2.out.alloc _) (HRr2.out.alloc HA.out HCu2.out.lt _) HA.out (Txt.lit rfl)).mono ?_
        rintro e w3 ⟨y, hy, rfl, hl3⟩
        have HL3 := Lib.hid (LeftC.trans (k := k) (k1 := kd) (m := 20) (by omega) HL2.out.2 hl3.alloc)
        clear hl3
        have hz : (t ++ y).size = t.size + y.size := ByteArray.size_append
        go_wp2_with fail
        go_ret
        obtain ⟨⟨k', s', h1, h2⟩, h3⟩ := HL3.out
        exact ⟨_, by omega, rfl, ⟨k', s', by omega, h2⟩, h3⟩
      · go_wp2_with fail
        go_ret
        obtain ⟨⟨k', s', h1, h2⟩, h3⟩ := HL2.out
        exact ⟨_, by simp [ByteArray.size], rfl, ⟨k', s', by omega, h2⟩, h3⟩
      · go_wp2_with fail
        go_loopw [5] (fun v wr => ∃ (x : ByteArray), v = .string x ∧ x.size ≤ 110 ∧ Hid (LeftC w g A n c k (20 + 2 * x.size) wr)) (fun v _ => 200 - strSz v)
        case atStart => exact ⟨t, rfl, by omega, Lib.hid (by obtain ⟨⟨k', s', h1, h2⟩, h3⟩ := HL2.out; exact ⟨⟨k', s', by omega, h2⟩, h3⟩)⟩
        case round =>
          obtain ⟨x, rfl, hx, HL⟩ := hrel
          obtain ⟨⟨ke, se, hke, hcur3⟩, hgr3⟩ := HL.out
          have HRr3 := Lib.hid (HR.out.grown HA.out hgr3)
          go_wp2_with fail
          refine (pick_any 3 (by omega) (by omega) g A n c ke se _ (by omega) hn hcur3 HRr3.out HA.out).mono ?_
          rintro e w3 ⟨p, rfl, hp0, hp1, hl3⟩
          have HL3 := Lib.hid (LeftC.trans (k := k) (k1 := ke) (m := 20 + 2 * x.size) (by omega) hgr3 hl3)
          clear hl3 hcur3 hgr3
          have hwp : IntKind.i64.wrap (99 + p) = 99 + p := IntWalk.i64_in _ (by omega)
          by_cases hlt : (x.size : Int) < 99 + p
          · have hz : (x ++ ByteArray.mk #[120]).size = x.size + 1 := ByteArray.size_append
            go_wp2_with fail
            go_roundw
            case rel => exact ⟨_, rfl, by omega, Lib.hid (by rw [hz]; obtain ⟨⟨k', s', h1, h2⟩, h3⟩ := HL3.out; exact ⟨⟨k', s', by omega, h2⟩, h3⟩)⟩
            case measure => simp only [strSz]; omega
          · go_wp2_with fail
            go_ret
            obtain ⟨⟨k', s', h1, h2⟩, h3⟩ := HL3.out
            exact ⟨_, by omega, rfl, ⟨k', s', by omega, h2⟩, h3⟩
      · go_wp2_with fail
        go_ret
        obtain ⟨⟨k', s', h1, h2⟩, h3⟩ := HL2.out
        exact ⟨_, by omega, rfl, ⟨k', s', by omega, h2⟩, h3⟩

def OneStr (m : Nat) (w : World) (e : Ending) (w' : World) : Prop := ∃ x : ByteArray, x.size ≤ m ∧ e = .returned (.string x) ∧ Below w.heap.size w w'
end Go.Proofs.YtobjfmchnlnohaaGreatDoor.Dw
