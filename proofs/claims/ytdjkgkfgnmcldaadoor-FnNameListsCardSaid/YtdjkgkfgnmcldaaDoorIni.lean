/-
  Contracts of impl.wordInitials and impl.initialsOf.
-/
import Derived.Test.YtdjkgkfgnmcldaaDoorIniPl
import Derived.Test.YtdjkgkfgnmcldaaDoorTx
import Derived.Test.YtdjkgkfgnmcldaaDoorShelf
namespace Go.Proofs.YtdjkgkfgnmcldaaDoor.Ini
open Go.RowKit Pl Strs Help Name Stands SplitPl NmPl Word Part NGood Forms Cut IniPl

theorem take1 {x : ByteArray} {c : UInt8} {t : List UInt8} (h : x.data.toList = c :: t) : x.extract 0 1 = ⟨#[c]⟩ := by
  rw [extract_take, h]; rfl
/-- the letter as upper case, by the library -/
theorem upper1 (c : UInt8) (w : World) (hc : isLt c = true) :
    Calls Tryd.prog 54 #[.string ⟨#[c]⟩] w fun e w' => e = .returned (.string ⟨#[Lib.upperB c]⟩) ∧ Below w.heap.size w w' := by
  have := Tryd.strings_ToUpper_ascii ⟨#[c]⟩ w (by simp [ByteArray.size]) (fun j b hb => by
    match j, hb with
    | 0, hb => cases hb; exact lt_small hc
    | j + 1, hb => simp at hb)
  simpa [Lib.toUpperA] using this
def msr : Value → Value → Nat
  | .string s, .bool true => s.size + 1
  | _, _ => 0
theorem cut_size {x : ByteArray} (h : stB 45 x.data.toList = true) : (ba (rest 45 x.data.toList)).size + 1 ≤ x.size := by
  have := congrArg List.length (hd_rest h)
  rw [ba_size, ← len_size x]
  rw [List.length_append, List.length_cons] at this
  omega
theorem sz3 (u : UInt8) : ((ByteArray.mk #[45]) ++ ⟨#[u]⟩ ++ ⟨#[46]⟩).size = 3 := by rw [ByteArray.size_append, ByteArray.size_append]; rfl
theorem sz1 (u : UInt8) : (ByteArray.mk #[u]).size = 1 := rfl
theorem sz0 : (ByteArray.mk #[]).size = 0 := rfl
theorem add3 (a : ByteArray) (c : UInt8) (p : List UInt8) (h : p.headD 0 = c) : (a ++ ((ByteArray.mk #[45]) ++ ⟨#[Lib.upperB c]⟩ ++ ⟨#[46]⟩)).data.toList = a.data.toList ++ up3 p := by
  subst h; simp [up3]

set_option maxHeartbeats 2000000 in
theorem wordIni (s : ByteArray) (w : World) (hw : wgo false s.data.toList = true) (hs : s.size ≤ 1000) :
    Calls Tryd.prog 39 #[.string s] w fun e w' => e = .returned (.string (ba (ini s.data.toList))) ∧ Below w.heap.size w w' := by
  cases hst : stB 45 s.data.toList with
  | false =>
    obtain ⟨c, t, he, hc⟩ := wgo_head hw
    have HT := Lib.hid (take1 he)
    have HI : Hid ((ByteArray.mk #[c]) ++ ⟨#[46]⟩ = ba (ini s.data.toList)) := Lib.hid (by rw [ini_free hst, he]; rfl)
    have hp : 0 < s.size := by rw [← len_size, he]; simp
    have HC := Lib.hid (cut_no s 45 w hst)
    clear hst hw he hc
    go_enter Tryd.func39, Tryd.ntmps39
    go_wp2_with fail
    refine HC.out.mono ?_
    rintro e w' ⟨rfl, rfl⟩
    go_wp2_with fail
    go_loop [5, 6] (fun m a => m = .bool false ∧ a = .string (s.extract 0 1 ++ ⟨#[46]⟩)) (fun _ _ => 0)
    case atStart => exact ⟨rfl, rfl⟩
    case round =>
      obtain ⟨rfl, rfl⟩ := hrel
      go_wp2_with fail
      go_ret
      exact ⟨by rw [← HI.out, ← HT.out]; rfl, Below.refl _ _⟩
  | true =>
    obtain ⟨c, t, he, hc, he2⟩ := hd_head hst hw
    have HT := Lib.hid (take1 (x := ba (hd 45 s.data.toList)) (c := c) (t := t) (by rw [toList_ba]; exact he))
    have HI := Lib.hid (ini_cut hst hw)
    rw [he] at HI
    have hpx : 0 < (ba (hd 45 s.data.toList)).size := by rw [ba_size, he]; simp
    have HR := Lib.hid (rest_wgo hst hw)
    have hcs := cut_size hst
    have HC := Lib.hid (cut_yes s 45 w (by unfold maxLen; omega) hst)
    have HR0 := Lib.hid (toList_ba (rest 45 s.data.toList))
    rw [← HR0.out] at HR HI
    clear hst hw he he2 HR0
    generalize ba (hd 45 s.data.toList) = x0 at *
    generalize ba (rest 45 s.data.toList) = r0 at *
    generalize ini s.data.toList = il at *
    go_enter Tryd.func39, Tryd.ntmps39
    go_wp2_with fail
    refine HC.out.mono ?_
    rintro e w' ⟨rfl, q0, rfl⟩
    go_wp2_with fail
    go_loopw [4, 5, 6] (fun rv mv av wr => ∃ (r a : ByteArray) (m : Bool), rv = .string r ∧ mv = .bool m ∧ av = .string a ∧ a.size + 3 * r.size ≤ 4000 ∧ r.size ≤ 1000 ∧ Hid (m = true → wgo false r.data.toList = true ∧ a.data.toList ++ iniT (split 45 r.data.toList) = il) ∧ Hid (m = false → a.data.toList = il) ∧ Below w.heap.size w wr) (fun rv mv _ _ => msr rv mv)
    case atStart =>
      refine ⟨r0, _, true, rfl, rfl, rfl, ?_, by omega, Lib.hid (fun _ => ⟨HR.out, ?_⟩), Lib.hid (fun h => by cases h), ⟨rfl, rfl, rfl, Nat.le_refl _, fun _ _ => rfl⟩⟩
      · rw [HT.out, ByteArray.size_append, sz1, sz1]; omega
      · rw [HT.out, HI.out]; simp
    case round =>
      obtain ⟨r, a, m, rfl, rfl, rfl, hsz, hrs, HM, HF, hb⟩ := hrel
      cases m with
      | false =>
        have HA := Lib.hid (eq_ba (HF.out rfl))
        go_wp2_with fail
        go_ret
        exact ⟨by rw [HA.out]; rfl, hb⟩
      | true =>
        obtain ⟨hwr, hei⟩ := HM.out rfl
        cases hst : stB 45 r.data.toList with
        | false =>
          obtain ⟨d, t2, he, hd1⟩ := wgo_head hwr
          have HT2 := Lib.hid (take1 he)
          have hp : 0 < r.size := by rw [← len_size, he]; simp
          have HE : Hid ((a ++ ((ByteArray.mk #[45]) ++ ⟨#[Lib.upperB d]⟩ ++ ⟨#[46]⟩)).data.toList = il) := Lib.hid (by
            rw [add3 a d r.data.toList (by rw [he]; rfl), ← iniT_free hst]; exact hei)
          have HC2 := Lib.hid (fun w => cut_no r 45 w hst)
          have HU := Lib.hid (fun w => upper1 d w hd1)
          clear hst hwr hei he hd1 HM HF
          go_wp2_with fail
          refine (HC2.out _).mono ?_
          rintro e w' ⟨rfl, rfl⟩
          go_wp2_with fail
          rw [HT2.out]
          refine (HU.out _).mono ?_
          rintro e w2 ⟨rfl, b2⟩
          go_wp2_with fail
          go_roundw
          case rel =>
            refine ⟨⟨#[]⟩, _, false, rfl, rfl, rfl, ?_, ?_, Lib.hid (fun h => by cases h), Lib.hid (fun _ => HE.out), hb.trans (b2.mono hb.size)⟩
            · rw [ByteArray.size_append, sz3, sz0]; omega
            · rw [sz0]; omega
          case measure => simp [msr]
        | true =>
          obtain ⟨d, t2, he, hd1, he2⟩ := hd_head hst hwr
          have HT2 := Lib.hid (take1 (x := ba (hd 45 r.data.toList)) (c := d) (t := t2) (by rw [toList_ba]; exact he))
          have hp : 0 < (ba (hd 45 r.data.toList)).size := by rw [ba_size, he]; simp
          have hcs2 := cut_size hst
          have HE : Hid ((a ++ ((ByteArray.mk #[45]) ++ ⟨#[Lib.upperB d]⟩ ++ ⟨#[46]⟩)).data.toList ++ iniT (split 45 (ba (rest 45 r.data.toList)).data.toList) = il) := Lib.hid (by
            rw [add3 a d (hd 45 r.data.toList) (by rw [he]; rfl), toList_ba, List.append_assoc, ← iniT_cut hst]; exact hei)
          have HR2 : Hid (wgo false (ba (rest 45 r.data.toList)).data.toList = true) := Lib.hid (by rw [toList_ba]; exact rest_wgo hst hwr)
          have HC2 := Lib.hid (fun w => cut_yes r 45 w (by unfold maxLen; omega) hst)
          have HU := Lib.hid (fun w => upper1 d w hd1)
          clear hst hwr hei he hd1 he2 HM HF
          generalize ba (hd 45 r.data.toList) = x1 at *
          generalize ba (rest 45 r.data.toList) = r1 at *
          go_wp2_with fail
          refine (HC2.out _).mono ?_
          rintro e w' ⟨rfl, q, rfl⟩
          go_wp2_with fail
          rw [HT2.out]
          refine (HU.out _).mono ?_
          rintro e w2 ⟨rfl, b2⟩
          have b2' : Below wr.heap.size wr w2 := ⟨b2.os, b2.tape, b2.output, b2.size, b2.block⟩
          go_wp2_with fail
          go_roundw
          case rel =>
            refine ⟨r1, _, true, rfl, rfl, rfl, ?_, by omega, Lib.hid (fun _ => ⟨HR2.out, HE.out⟩), Lib.hid (fun h => by cases h), hb.trans (b2'.mono hb.size)⟩
            rw [ByteArray.size_append, sz3]; omega
          case measure => simp [msr]; omega
end Go.Proofs.YtdjkgkfgnmcldaaDoor.Ini
