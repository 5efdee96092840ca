/-
  Several texts of one claim in one file: IniPl, Ini, Ini2, Ini3, Short0.
-/
import Derived.Test.YteccmlpibbchbaaGreatDoorGSp
import Derived.Test.YteccmlpibbchbaaGreatDoorCut
import Derived.Lib.Case
import Derived.Test.YteccmlpibbchbaaGreatDoorTx
import Derived.Test.YteccmlpibbchbaaGreatDoorShelf
import Derived.Laws.BytesArg
/-
  Plain mathematics of the initials of a word.
-/
namespace Go.Proofs.YteccmlpibbchbaaGreatDoor.IniPl
open Pl Stands SplitPl NmPl Cut

def up3 (p : List UInt8) : List UInt8 := [45, Lib.upperB (p.headD 0), 46]
def iniT (ps : List (List UInt8)) : List UInt8 := (ps.map up3).flatten
/-- the initials of a word -/
def ini (l : List UInt8) : List UInt8 := [l.headD 0, 46] ++ iniT (split 45 l).tail
/-- what the model scans -/
def scan : List UInt8 → List UInt8
  | a :: b :: l => (if a = 45 then [45, Lib.upperB b, 46] else []) ++ scan (b :: l)
  | _ => []
theorem scan_free : ∀ (x : List UInt8), stB 45 x = false → scan x = []
  | [], _ => rfl
  | [_], _ => rfl
  | a :: b :: l, h => by
    have h1 : a ≠ 45 := by intro e; subst e; simp [stB] at h
    have h2 : stB 45 (b :: l) = false := by
      unfold stB at h ⊢; rw [List.contains_cons] at h; simp only [Bool.or_eq_false_iff] at h; exact h.2
    rw [scan, if_neg h1, scan_free (b :: l) h2]; rfl
theorem scan_app : ∀ (x : List UInt8) (c : UInt8) (y : List UInt8), stB 45 x = false → scan (x ++ 45 :: c :: y) = [45, Lib.upperB c, 46] ++ scan (c :: y)
  | [], c, y, _ => by simp [scan]
  | [a], c, y, h => by
    have h1 : a ≠ 45 := by intro e; subst e; simp [stB] at h
    show scan (a :: 45 :: c :: y) = _
    rw [scan, if_neg h1]; simp [scan]
  | a :: b :: l, c, y, h => by
    have h1 : a ≠ 45 := by intro e; subst e; simp [stB] at h
    have h2 : stB 45 (b :: l) = false := by
      unfold stB at h ⊢; rw [List.contains_cons] at h; simp only [Bool.or_eq_false_iff] at h; exact h.2
    have := scan_app (b :: l) c y h2
    show scan (a :: b :: (l ++ 45 :: c :: y)) = _
    rw [scan, if_neg h1, List.nil_append]
    exact this
theorem wgo_cut : ∀ (x : List UInt8) (p : Bool) (y : List UInt8), wgo p (x ++ 45 :: y) = true → (x = [] → p = true) ∧ wgo false y = true
  | [], p, y, h => by
    have e : isLt 45 = false := by decide
    simp only [List.nil_append, wgo, e] at h
    split at h
    · cases ‹false = true›
    · split at h
      · exact ⟨fun _ => (‹p = true ∧ _›).1, h⟩
      · cases h
  | a :: x, p, y, h => by
    rw [List.cons_append] at h
    by_cases ha : isLt a = true
    · rw [wgo_lt ha] at h
      exact ⟨(fun e => by cases e), (wgo_cut x true y h).2⟩
    · have ha' : isLt a = false := by simpa using ha
      simp only [wgo, ha'] at h
      split at h
      · cases ‹false = true›
      · split at h
        · exact ⟨(fun e => by cases e), (wgo_cut x false y h).2⟩
        · cases h
theorem wgo_head {l : List UInt8} (h : wgo false l = true) : ∃ c t, l = c :: t ∧ isLt c = true := by
  cases l with
  | nil => cases h
  | cons c t =>
    refine ⟨c, t, rfl, ?_⟩
    cases hc : isLt c with
    | true => rfl
    | false => rw [wgo_no' hc] at h; cases h
theorem lt_small {c : UInt8} (h : isLt c = true) : c.toNat < 128 := by
  unfold isLt isUp isLo at h
  simp at h
  omega
theorem headD_app (x : List UInt8) (b : UInt8) (y : List UInt8) (h : x ≠ []) : (x ++ b :: y).headD 0 = x.headD 0 := by
  cases x with
  | nil => exact absurd rfl h
  | cons a r => rfl
/-- one step of the program's loop -/
theorem iniT_free {r : List UInt8} (h : stB 45 r = false) : iniT (split 45 r) = up3 r := by
  rw [split_one h]; simp [iniT]
theorem iniT_cut {r : List UInt8} (h : stB 45 r = true) : iniT (split 45 r) = up3 (hd 45 r) ++ iniT (split 45 (rest 45 r)) := by
  conv => lhs; rw [hd_rest h]
  rw [split_cons (hd_nofind 45 r)]
  simp [iniT]
theorem ini_free {l : List UInt8} (h : stB 45 l = false) : ini l = [l.headD 0, 46] := by
  unfold ini; rw [split_one h]; simp [iniT]
theorem ini_cut {l : List UInt8} (h : stB 45 l = true) (hw : wgo false l = true) : ini l = [(hd 45 l).headD 0, 46] ++ iniT (split 45 (rest 45 l)) := by
  have e := hd_rest h
  rw [e] at hw
  have hne : hd 45 l ≠ [] := fun h0 => by have := (wgo_cut _ _ _ hw).1 h0; cases this
  unfold ini
  rw [e, split_cons (hd_nofind 45 l), headD_app _ _ _ hne, ← e]
  rfl
theorem rest_wgo {l : List UInt8} (h : stB 45 l = true) (hw : wgo false l = true) : wgo false (rest 45 l) = true := by
  rw [hd_rest h] at hw
  exact (wgo_cut _ _ _ hw).2
theorem hd_head {l : List UInt8} (h : stB 45 l = true) (hw : wgo false l = true) : ∃ c t, hd 45 l = c :: t ∧ isLt c = true ∧ l.headD 0 = c := by
  obtain ⟨c, t, e, hc⟩ := wgo_head hw
  have e2 := hd_rest h
  rw [e2] at hw
  have hne : hd 45 l ≠ [] := fun h0 => by have := (wgo_cut _ _ _ hw).1 h0; cases this
  cases hh : hd 45 l with
  | nil => exact absurd hh hne
  | cons a r =>
    rw [hh, e] at e2
    simp only [List.cons_append, List.cons.injEq] at e2
    exact ⟨a, r, rfl, by rw [← e2.1]; exact hc, by rw [e, List.headD_cons]; exact e2.1⟩
theorem scan_iniT : ∀ (n : Nat) (l : List UInt8), l.length ≤ n → wgo false l = true → scan l = iniT (split 45 l).tail
  | 0, l, hl, hw => by
    have : l = [] := List.eq_nil_of_length_eq_zero (by omega)
    subst this; cases hw
  | n + 1, l, hl, hw => by
    cases h : stB 45 l with
    | false => rw [scan_free l h, split_one h]; rfl
    | true =>
      have e := hd_rest h
      have hr := rest_wgo h hw
      obtain ⟨c, t, er, _⟩ := wgo_head hr
      have hlen : (rest 45 l).length ≤ n := by
        have := congrArg List.length e
        simp at this; omega
      have ih := scan_iniT n (rest 45 l) hlen hr
      have e3 : split 45 l = hd 45 l :: split 45 (rest 45 l) := by
        have := split_cons (hd_nofind 45 l) (rest 45 l)
        rwa [← e] at this
      have e4 : split 45 (rest 45 l) = hd 45 (rest 45 l) :: (split 45 (rest 45 l)).tail := by
        have := split_hd 45 (rest 45 l)
        cases hs : split 45 (rest 45 l) with
        | nil => rw [hs] at this; cases this
        | cons a r => rw [hs] at this; simp at this; rw [this]; rfl
      have hh : (hd 45 (rest 45 l)).headD 0 = c := by
        cases h2 : stB 45 (rest 45 l) with
        | false => rw [hd_free h2, er]; rfl
        | true =>
          obtain ⟨c', t', e', _, e''⟩ := hd_head h2 hr
          rw [e', List.headD_cons, ← e'', er]; rfl
      rw [e3, List.tail_cons, e4]
      conv => lhs; rw [e, er]
      rw [scan_app _ _ _ (hd_nofind 45 l), ← er, ih]
      have hup : up3 (hd 45 (rest 45 l)) = [45, Lib.upperB c, 46] := by unfold up3; rw [hh]
      simp [iniT, hup]
theorem ini_scan {l : List UInt8} (hw : wgo false l = true) : ini l = [l.headD 0, 46] ++ scan l := by
  unfold ini; rw [scan_iniT _ l (Nat.le_refl _) hw]
theorem word_wgo {l : List UInt8} (h : wordB l = true) : wgo false l = true := by
  unfold wordB at h; simp only [Bool.and_eq_true] at h; exact h.2
theorem scan_drop (s : ByteArray) (k : Nat) (h : k + 1 < s.size) : scan (s.data.toList.drop k) = (if s[k] = 45 then [45, Lib.upperB s[k + 1], 46] else []) ++ scan (s.data.toList.drop (k + 1)) := by
  rw [drop_cons s k (by omega), drop_cons s (k + 1) h, scan]
theorem scan_end (s : ByteArray) (k : Nat) (h : s.size ≤ k + 1) : scan (s.data.toList.drop k) = [] := by
  by_cases hk : k < s.size
  · rw [drop_cons s k hk, drop_all s (k + 1) h]; rfl
  · rw [drop_all s k (by omega)]; rfl
theorem lowerB_lo (c : UInt8) : Lib.isLowerB c = isLo c := by
  unfold Lib.isLowerB isLo
  rw [Bool.eq_iff_iff]
  simp [UInt8.le_iff_toNat_le]
theorem up_lo {c : UInt8} (h : isLo c = true) : Lib.upperB c = UInt8.ofNat (((c.toNat : Int) - 32).toNat) := by
  unfold Lib.upperB
  rw [lowerB_lo, h, if_pos rfl]
  have h2 : 97 ≤ c.toNat ∧ c.toNat ≤ 122 := by unfold isLo at h; simpa using h
  apply UInt8.toNat_inj.1
  rw [UInt8.toNat_sub_of_le _ _ (by rw [UInt8.le_iff_toNat_le]; show 32 ≤ c.toNat; omega)]
  have e : ((c.toNat : Int) - 32).toNat = c.toNat - 32 := by omega
  rw [e]
  simp
  omega
theorem up_no {c : UInt8} (h : isLo c = false) : Lib.upperB c = c := by
  unfold Lib.upperB
  rw [lowerB_lo, h]; rfl
end Go.Proofs.YteccmlpibbchbaaGreatDoor.IniPl
/-
  Contracts of impl.wordInitials and impl.initialsOf.
-/
namespace Go.Proofs.YteccmlpibbchbaaGreatDoor.Ini
open Go.RowKit Pl Strs Help Name Stands SplitPl NmPl Word Part NGood Forms Cut IniPl

theorem take1 {x : ByteArray} {c : UInt8} {t : List UInt8} (h : x.data.toList = c :: t) : x.extract 0 1 = ⟨#[c]⟩ := by
  rw [extract_take, h]; rfl
/-- the letter as upper case, by the library -/
theorem upper1 (c : UInt8) (w : World) (hc : isLt c = true) :
    Calls Tryz.prog 154 #[.string ⟨#[c]⟩] w fun e w' => e = .returned (.string ⟨#[Lib.upperB c]⟩) ∧ Below w.heap.size w w' := by
  have := Tryz.strings_ToUpper_ascii ⟨#[c]⟩ w (by simp [ByteArray.size]) (fun j b hb => by
    match j, hb with
    | 0, hb => cases hb; exact lt_small hc
    | j + 1, hb => simp at hb)
  simpa [Lib.toUpperA] using this
def msr : Value → Value → Nat
  | .string s, .bool true => s.size + 1
  | _, _ => 0
theorem cut_size {x : ByteArray} (h : stB 45 x.data.toList = true) : (ba (rest 45 x.data.toList)).size + 1 ≤ x.size := by
  have := congrArg List.length (hd_rest h)
  rw [ba_size, ← len_size x]
  rw [List.length_append, List.length_cons] at this
  omega
theorem sz3 (u : UInt8) : ((ByteArray.mk #[45]) ++ ⟨#[u]⟩ ++ ⟨#[46]⟩).size = 3 := by rw [ByteArray.size_append, ByteArray.size_append]; rfl
theorem sz1 (u : UInt8) : (ByteArray.mk #[u]).size = 1 := rfl
theorem sz0 : (ByteArray.mk #[]).size = 0 := rfl
theorem add3 (a : ByteArray) (c : UInt8) (p : List UInt8) (h : p.headD 0 = c) : (a ++ ((ByteArray.mk #[45]) ++ ⟨#[Lib.upperB c]⟩ ++ ⟨#[46]⟩)).data.toList = a.data.toList ++ up3 p := by
  subst h; simp [up3]

set_option maxHeartbeats 2000000 in
theorem wordIni (s : ByteArray) (w : World) (hw : wgo false s.data.toList = true) (hs : s.size ≤ 1000) :
    Calls Tryz.prog 147 #[.string s] w fun e w' => e = .returned (.string (ba (ini s.data.toList))) ∧ Below w.heap.size w w' := by
  cases hst : stB 45 s.data.toList with
  | false =>
    obtain ⟨c, t, he, hc⟩ := wgo_head hw
    have HT := Lib.hid (take1 he)
    have HI : Hid ((ByteArray.mk #[c]) ++ ⟨#[46]⟩ = ba (ini s.data.toList)) := Lib.hid (by rw [ini_free hst, he]; rfl)
    have hp : 0 < s.size := by rw [← len_size, he]; simp
    have HC := Lib.hid (cut_no s 45 w hst)
    clear hst hw he hc
    go_enter Tryz.func147, Tryz.ntmps147
    go_wp2_with fail
    refine HC.out.mono ?_
    rintro e w' ⟨rfl, rfl⟩
    go_wp2_with fail
    go_loop [5, 6] (fun m a => m = .bool false ∧ a = .string (s.extract 0 1 ++ ⟨#[46]⟩)) (fun _ _ => 0)
    case atStart => exact ⟨rfl, rfl⟩
    case round =>
      obtain ⟨rfl, rfl⟩ := hrel
      go_wp2_with fail
      go_ret
      exact ⟨by rw [← HI.out, ← HT.out]; rfl, Below.refl _ _⟩
  | true =>
    obtain ⟨c, t, he, hc, he2⟩ := hd_head hst hw
    have HT := Lib.hid (take1 (x := ba (hd 45 s.data.toList)) (c := c) (t := t) (by rw [toList_ba]; exact he))
    have HI := Lib.hid (ini_cut hst hw)
    rw [he] at HI
    have hpx : 0 < (ba (hd 45 s.data.toList)).size := by rw [ba_size, he]; simp
    have HR := Lib.hid (rest_wgo hst hw)
    have hcs := cut_size hst
    have HC := Lib.hid (cut_yes s 45 w (by unfold maxLen; omega) hst)
    have HR0 := Lib.hid (toList_ba (rest 45 s.data.toList))
    rw [← HR0.out] at HR HI
    clear hst hw he he2 HR0
    generalize ba (hd 45 s.data.toList) = x0 at *
    generalize ba (rest 45 s.data.toList) = r0 at *
    generalize ini s.data.toList = il at *
    go_enter Tryz.func147, Tryz.ntmps147
    go_wp2_with fail
    refine HC.out.mono ?_
    rintro e w' ⟨rfl, q0, rfl⟩
    go_wp2_with fail
    go_loopw [4, 5, 6] (fun rv mv av wr => ∃ (r a : ByteArray) (m : Bool), rv = .string r ∧ mv = .bool m ∧ av = .string a ∧ a.size + 3 * r.size ≤ 4000 ∧ r.size ≤ 1000 ∧ Hid (m = true → wgo false r.data.toList = true ∧ a.data.toList ++ iniT (split 45 r.data.toList) = il) ∧ Hid (m = false → a.data.toList = il) ∧ Below w.heap.size w wr) (fun rv mv _ _ => msr rv mv)
    case atStart =>
      refine ⟨r0, _, true, rfl, rfl, rfl, ?_, by omega, Lib.hid (fun _ => ⟨HR.out, ?_⟩), Lib.hid (fun h => by cases h), ⟨rfl, rfl, rfl, Nat.le_refl _, fun _ _ => rfl⟩⟩
      · rw [HT.out, ByteArray.size_append, sz1, sz1]; omega
      · rw [HT.out, HI.out]; simp
    case round =>
      obtain ⟨r, a, m, rfl, rfl, rfl, hsz, hrs, HM, HF, hb⟩ := hrel
      cases m with
      | false =>
        have HA := Lib.hid (eq_ba (HF.out rfl))
        go_wp2_with fail
        go_ret
        exact ⟨by rw [HA.out]; rfl, hb⟩
      | true =>
        obtain ⟨hwr, hei⟩ := HM.out rfl
        cases hst : stB 45 r.data.toList with
        | false =>
          obtain ⟨d, t2, he, hd1⟩ := wgo_head hwr
          have HT2 := Lib.hid (take1 he)
          have hp : 0 < r.size := by rw [← len_size, he]; simp
          have HE : Hid ((a ++ ((ByteArray.mk #[45]) ++ ⟨#[Lib.upperB d]⟩ ++ ⟨#[46]⟩)).data.toList = il) := Lib.hid (by
            rw [add3 a d r.data.toList (by rw [he]; rfl), ← iniT_free hst]; exact hei)
          have HC2 := Lib.hid (fun w => cut_no r 45 w hst)
          have HU := Lib.hid (fun w => upper1 d w hd1)
          clear hst hwr hei he hd1 HM HF
          go_wp2_with fail
          refine (HC2.out _).mono ?_
          rintro e w' ⟨rfl, rfl⟩
          go_wp2_with fail
          rw [HT2.out]
          refine (HU.out _).mono ?_
          rintro e w2 ⟨rfl, b2⟩
          go_wp2_with fail
          go_roundw
          case rel =>
            refine ⟨⟨#[]⟩, _, false, rfl, rfl, rfl, ?_, ?_, Lib.hid (fun h => by cases h), Lib.hid (fun _ => HE.out), hb.trans (b2.mono hb.size)⟩
            · rw [ByteArray.size_append, sz3, sz0]; omega
            · rw [sz0]; omega
          case measure => simp [msr]
        | true =>
          obtain ⟨d, t2, he, hd1, he2⟩ := hd_head hst hwr
          have HT2 := Lib.hid (take1 (x := ba (hd 45 r.data.toList)) (c := d) (t := t2) (by rw [toList_ba]; exact he))
          have hp : 0 < (ba (hd 45 r.data.toList)).size := by rw [ba_size, he]; simp
          have hcs2 := cut_size hst
          have HE : Hid ((a ++ ((ByteArray.mk #[45]) ++ ⟨#[Lib.upperB d]⟩ ++ ⟨#[46]⟩)).data.toList ++ iniT (split 45 (ba (rest 45 r.data.toList)).data.toList) = il) := Lib.hid (by
            rw [add3 a d (hd 45 r.data.toList) (by rw [he]; rfl), toList_ba, List.append_assoc, ← iniT_cut hst]; exact hei)
          have HR2 : Hid (wgo false (ba (rest 45 r.data.toList)).data.toList = true) := Lib.hid (by rw [toList_ba]; exact rest_wgo hst hwr)
          have HC2 := Lib.hid (fun w => cut_yes r 45 w (by unfold maxLen; omega) hst)
          have HU := Lib.hid (fun w => upper1 d w hd1)
          clear hst hwr hei he hd1 he2 HM HF
          generalize ba (hd 45 r.data.toList) = x1 at *
          generalize ba (rest 45 r.data.toList) = r1 at *
          go_wp2_with fail
          refine (HC2.out _).mono ?_
          rintro e w' ⟨rfl, q, rfl⟩
          go_wp2_with fail
          rw [HT2.out]
          refine (HU.out _).mono ?_
          rintro e w2 ⟨rfl, b2⟩
          have b2' : Below wr.heap.size wr w2 := ⟨b2.os, b2.tape, b2.output, b2.size, b2.block⟩
          go_wp2_with fail
          go_roundw
          case rel =>
            refine ⟨r1, _, true, rfl, rfl, rfl, ?_, by omega, Lib.hid (fun _ => ⟨HR2.out, HE.out⟩), Lib.hid (fun h => by cases h), hb.trans (b2'.mono hb.size)⟩
            rw [ByteArray.size_append, sz3]; omega
          case measure => simp [msr]; omega
end Go.Proofs.YteccmlpibbchbaaGreatDoor.Ini
/-
  Contract of impl.initialsOf.
-/
namespace Go.Proofs.YteccmlpibbchbaaGreatDoor.Ini
open Go.RowKit Pl Strs Help Name Stands SplitPl NmPl Word Part NGood Forms Cut IniPl

/-- the initials of the words -/
def inis (xs : List ByteArray) : List ByteArray := xs.map fun x => ba (ini x.data.toList)
def iniL (xs : List ByteArray) (_p _f _s : ByteArray) : List UInt8 := jn (ls (inis xs))
theorem inis_len (xs : List ByteArray) : (inis xs).length = xs.length := by simp [inis]
theorem inis_take {xs : List ByteArray} {k : Nat} {x : ByteArray} (h : xs[k]? = some x) : inis (xs.take (k + 1)) = inis (xs.take k) ++ [ba (ini x.data.toList)] := by
  unfold inis; rw [List.take_add_one, h]; simp
theorem iniT_len (ps : List (List UInt8)) : (iniT ps).length = 3 * ps.length := by
  unfold iniT
  induction ps with
  | nil => rfl
  | cons p r ih => simp only [List.map_cons, List.flatten_cons, List.length_append, ih, List.length_cons]; simp [up3]; omega
theorem ini_len (l : List UInt8) : (ini l).length ≤ 2 + 3 * l.length := by
  unfold ini
  have := split_count 45 l
  rw [List.length_append, iniT_len, List.length_tail]
  simp
  omega
theorem inis_lens {xs : List ByteArray} (h : ∀ x ∈ xs, x.size ≤ 12) : lens (inis xs) ≤ 38 * xs.length := by
  unfold inis lens
  induction xs with
  | nil => simp
  | cons x r ih =>
    have h1 := h x (List.mem_cons_self ..)
    have h2 := ih fun y hy => h y (List.mem_cons_of_mem _ hy)
    have h3 := ini_len x.data.toList
    rw [len_size] at h3
    simp only [List.map_cons, List.sum_cons, List.length_cons, ba_size]
    omega
theorem ini_ne (l : List UInt8) : ini l ≠ [] := by unfold ini; simp
theorem inis_nes (xs : List ByteArray) : ∀ x ∈ ls (inis xs), x ≠ [] := by
  intro x hx
  unfold ls inis at hx
  rw [List.map_map] at hx
  obtain ⟨y, _, rfl⟩ := List.mem_map.1 hx
  simp only [Function.comp]
  rw [toList_ba]
  exact ini_ne _
theorem cap_of_mem {xs : List ByteArray} (h : ∀ x ∈ ls xs, capB x = true) {k : Nat} {x : ByteArray} (hx : xs[k]? = some x) : wgo false x.data.toList = true ∧ x.size ≤ 12 := by
  have := h x.data.toList (by unfold ls; exact List.mem_map.2 ⟨x, List.mem_of_getElem? hx, rfl⟩)
  refine ⟨word_wgo (cap_word this), ?_⟩
  rw [← len_size]; exact word_len (cap_word this)
theorem caps_size {xs : List ByteArray} (h : ∀ x ∈ ls xs, capB x = true) : ∀ x ∈ xs, x.size ≤ 12 := by
  intro x hx
  rw [← len_size]
  exact word_len (cap_word (h _ (by unfold ls; exact List.mem_map.2 ⟨x, hx, rfl⟩)))

set_option maxHeartbeats 2000000 in
theorem implInitials (A : Option Addr) (c n : Nat) (xs : List ByteArray) (p f s : ByteArray) (w : World) (h : Rdn w A n xs) (hcp : ∀ x ∈ ls xs, capB x = true) (hn3 : n ≤ 1000) :
    Calls Tryz.prog 135 #[nmV (.slice A n c) p f s] w fun e w' => e = .returned (.string (ba (iniL xs p f s))) ∧ Below w.heap.size w w' := by
  obtain ⟨i0, hi, hz0, hz1, hz2⟩ := info_parts Split.infoStr
  have HB := Lib.hid ((Below.refl _ w).alloc (Nat.le_refl _) (.cells #[.slice A n c, .string p, .string f, .string s] 111))
  have H := Lib.hid (h.below HB.out)
  have HN := Lib.hid h.2.2
  have HCp := Lib.hid hcp
  clear h hcp
  go_enter Tryz.func135, Tryz.ntmps135
  go_wp2_with fail
  have HO0 : Hid (((w.alloc (.cells #[.slice A n c, .string p, .string f, .string s] 111)).alloc (.cells #[] 9)).ownsRow (w.alloc (.cells #[.slice A n c, .string p, .string f, .string s] 111)).heap.size 9 1 (.slice (some ⟨w.heap.size + 1, 0, none⟩) 0 0) 0 []) := Lib.hid (by
    have := World.ownsRow_lit (base := (w.alloc (.cells #[.slice A n c, .string p, .string f, .string s] 111)).heap.size) (e := 9) (size := 1) (w.alloc (.cells #[.slice A n c, .string p, .string f, .string s] 111)) #[] 0 (Nat.le_refl _) (Nat.zero_le _) rfl
    simpa using this)
  have HB1 : Hid (Below (w.alloc (.cells #[.slice A n c, .string p, .string f, .string s] 111)).heap.size (w.alloc (.cells #[.slice A n c, .string p, .string f, .string s] 111)) ((w.alloc (.cells #[.slice A n c, .string p, .string f, .string s] 111)).alloc (.cells #[] 9))) := Lib.hid ((Below.refl _ _).alloc (Nat.le_refl _) _)
  generalize w.alloc (.cells #[.slice A n c, .string p, .string f, .string s] 111) = W0 at *
  go_loopw [3, 10] (fun v i wr => ∃ k : Nat, k ≤ n ∧ i = .int .i64 k ∧ wr.ownsRow W0.heap.size 9 1 v k ((inis (xs.take k)).map Value.string) ∧ Below W0.heap.size W0 wr) (fun _ i _ => n - (intOf i).toNat)
  case atStart => exact ⟨0, Nat.zero_le _, rfl, HO0.out, HB1.out⟩
  case round =>
    obtain ⟨k, hk, rfl, hown, hbe⟩ := hrel
    have hbs := hbe.size
    by_cases hlt : k < n
    · have hkx : k < xs.length := by rw [HN.out]; exact hlt
      have hx? := List.getElem?_eq_getElem hkx
      obtain ⟨g, of, rfl, hc0⟩ := H.out.1 k xs[k] hx?
      have hg : g < W0.heap.size := H.out.2.1 (by omega) _ rfl
      have hc : wr.cell? ⟨g, of + k, none⟩ = some (.string xs[k]) := (hbe.cell (p := ⟨g, of + k, none⟩) hg).trans hc0
      have HT := Lib.hid (inis_take hx?)
      obtain ⟨hwg, hsx⟩ := cap_of_mem HCp.out hx?
      have HWg := Lib.hid hwg
      clear hx? hc0 hwg
      generalize xs[k] = x at *
      have HO := Lib.hid hown
      clear hown
      go_wp2_with fail
      refine (wordIni x _ HWg.out (by omega)).mono ?_
      rintro e w1 ⟨rfl, b1⟩
      have hown1 := own_below HO.out b1
      have hbe1 := hbe.trans (b1.mono hbs)
      have hbs1 : W0.heap.size ≤ w1.heap.size := Nat.le_trans hbs b1.size
      generalize ba (ini x.data.toList) = t at *
      go_wp2_with (first
        | (at_builtin; refine wpList_append_own _ rfl _ _ 61 rfl W0.heap.size 9 i0 (.string ByteArray.empty) 1 16 Tryz.underlying61 hi hz0 hz1 hz2 rfl (by decide) _ _ _ rfl (hown1.alloc _) ⟨w1.heap.size, 0, none⟩ 1 1 [.string t] rfl rfl (cell_one_new _ _ _) (by simp [Value.oneCell']) (by unfold maxLen; omega) (by omega) (by simp; omega) ?_; intro v' w2 hown' hgrow _)
        | go_in)
      go_roundw
      case rel =>
        refine ⟨k + 1, by omega, by go_num, ?_, ?_⟩
        · rw [HT.out]; simpa using hown'
        · exact (hbe1.alloc (Nat.le_trans hbs b1.size) _).grown hgrow (by have := b1.size; simp; omega) (fun g hg => (hown1.lt g hg).1)
      case measure => simp [intOf]; omega
    · obtain rfl : k = n := by omega
      have HT : Hid (xs.take k = xs) := Lib.hid (List.take_of_length_le (by rw [HN.out]; omega))
      rw [HT.out] at hown
      have hLn := inis_lens (caps_size HCp.out)
      rw [HN.out] at hLn
      have HE : Hid (ba (Lib.join (ls (inis xs)) [32]) = ba (iniL xs p f s)) := Lib.hid (by unfold iniL; rw [jn_all (inis_nes xs)])
      obtain ⟨A1, c1, rfl, _, _, _⟩ := own_rds hown
      have hcap := own_cap hown
      have HJ := Lib.hid (joinSp A1 c1 _ (inis xs) wr (Rdn.own hown) hcap (by omega))
      rw [HE.out] at HJ
      clear hown hcap HE
      go_wp2_with fail
      refine HJ.out.mono ?_
      rintro e w2 ⟨rfl, b2⟩
      go_wp2_with fail
      go_ret
      exact ⟨rfl, HB.out.trans ((hbe.trans (b2.mono hbs)).mono HB.out.size)⟩
end Go.Proofs.YteccmlpibbchbaaGreatDoor.Ini
/-
  Contract of spec.l2Initials.
-/
namespace Go.Proofs.YteccmlpibbchbaaGreatDoor.Ini
open Go.RowKit Pl Strs Help Name Stands SplitPl NmPl Word Part NGood Forms Cut IniPl

theorem str1 (wr : World) (x : Int) :
    (convert 92 9 (.slice (some ⟨wr.heap.size, 0, none⟩) 1 1)).run Tryz.prog (wr.alloc (.cells #[.int .u8 x] 5)) = .ok (.string ⟨#[UInt8.ofNat x.toNat]⟩) (wr.alloc (.cells #[.int .u8 x] 5)) := by
  refine (run_convert_bytes_arg _ 92 5 Tryz.underlying92 Tryz.underlying5 wr.heap.size 0 1 1 [x] rfl (fun i hi => ?_) 9 Tryz.underlying9)
  obtain rfl : i = 0 := by omega
  simp
theorem up_lo2 {c : UInt8} (h : isLo c = true) : Lib.upperB c = UInt8.ofNat (c.toNat - 32) := by
  rw [up_lo h]; congr 1; omega
theorem plus3 (o : ByteArray) (u : UInt8) : (o ++ (ByteArray.mk #[45]) ++ ⟨#[u]⟩ ++ ⟨#[46]⟩).data.toList = o.data.toList ++ [45, u, 46] := by simp
theorem psz3 (o : ByteArray) (u : UInt8) : (o ++ (ByteArray.mk #[45]) ++ ⟨#[u]⟩ ++ ⟨#[46]⟩).size = o.size + 3 := by
  rw [ByteArray.size_append, ByteArray.size_append, ByteArray.size_append]; rfl

set_option maxHeartbeats 4000000 in
set_option maxRecDepth 100000 in
theorem l2Initials (A : Option Addr) (c n : Nat) (xs : List ByteArray) (p f s : ByteArray) (w : World) (h : Rdn w A n xs) (hcp : ∀ x ∈ ls xs, capB x = true) (hn3 : n ≤ 1000) :
    Calls Tryz.prog 129 #[nmV (.slice A n c) p f s] w fun e w' => e = .returned (.string (ba (iniL xs p f s))) ∧ Below w.heap.size w w' := by
  obtain ⟨i0, hi, hz0, hz1, hz2⟩ := info_parts Split.infoStr
  have HB := Lib.hid ((Below.refl _ w).alloc (Nat.le_refl _) (.cells #[.slice A n c, .string p, .string f, .string s] 111))
  have H := Lib.hid (h.below HB.out)
  have HN := Lib.hid h.2.2
  have HCp := Lib.hid hcp
  have HC4 := Lib.hid (C4.new w (.slice A n c) p f s 111)
  clear h hcp
  go_enter Tryz.func129, Tryz.ntmps129
  go_wp2_with fail
  have HO0 : Hid (((w.alloc (.cells #[.slice A n c, .string p, .string f, .string s] 111)).alloc (.cells #[] 9)).ownsRow (w.alloc (.cells #[.slice A n c, .string p, .string f, .string s] 111)).heap.size 9 1 (.slice (some ⟨w.heap.size + 1, 0, none⟩) 0 0) 0 []) := Lib.hid (by
    have := World.ownsRow_lit (base := (w.alloc (.cells #[.slice A n c, .string p, .string f, .string s] 111)).heap.size) (e := 9) (size := 1) (w.alloc (.cells #[.slice A n c, .string p, .string f, .string s] 111)) #[] 0 (Nat.le_refl _) (Nat.zero_le _) rfl
    simpa using this)
  have HB1 : Hid (Below (w.alloc (.cells #[.slice A n c, .string p, .string f, .string s] 111)).heap.size (w.alloc (.cells #[.slice A n c, .string p, .string f, .string s] 111)) ((w.alloc (.cells #[.slice A n c, .string p, .string f, .string s] 111)).alloc (.cells #[] 9))) := Lib.hid ((Below.refl _ _).alloc (Nat.le_refl _) _)
  generalize w.alloc (.cells #[.slice A n c, .string p, .string f, .string s] 111) = W0 at *
  go_loopw [3, 4] (fun v i wr => ∃ k : Nat, k ≤ n ∧ i = .int .i64 k ∧ wr.ownsRow W0.heap.size 9 1 v k ((inis (xs.take k)).map Value.string) ∧ Below W0.heap.size W0 wr) (fun _ i _ => n - (intOf i).toNat)
  case atStart => exact ⟨0, Nat.zero_le _, rfl, HO0.out, HB1.out⟩
  case round =>
    obtain ⟨k, hk, rfl, hown, hbe⟩ := hrel
    rename World => wo
    have hbs := hbe.size
    obtain ⟨la, ha0, ha1, ha2, ha3⟩ := HC4.out.below hbe
    clear ha1 ha2 ha3
    by_cases hlt : k < n
    · have hkx : k < xs.length := by rw [HN.out]; exact hlt
      have hx? := List.getElem?_eq_getElem hkx
      obtain ⟨g, of, rfl, hc0⟩ := H.out.1 k xs[k] hx?
      have hg : g < W0.heap.size := H.out.2.1 (by omega) _ rfl
      have hc : wo.cell? ⟨g, of + k, none⟩ = some (.string xs[k]) := (hbe.cell (p := ⟨g, of + k, none⟩) hg).trans hc0
      have HT := Lib.hid (inis_take hx?)
      obtain ⟨hwg, hsx⟩ := cap_of_mem HCp.out hx?
      obtain ⟨d, t2, he, hd1⟩ := wgo_head hwg
      have HT1 := Lib.hid (take1 he)
      have hpx : 0 < xs[k].size := by rw [← len_size, he]; simp
      have HIs : Hid (ini xs[k].data.toList = [d, 46] ++ scan xs[k].data.toList) := Lib.hid (by rw [ini_scan hwg, he]; rfl)
      clear hx? hc0 hwg he hd1
      generalize xs[k] = x at *
      generalize ini x.data.toList = il at *
      have HO := Lib.hid hown
      have HBe := Lib.hid hbe
      clear hown hbe
      go_wp2_with fail
      go_loopw [6, 7] (fun sv kv wi => ∃ (j : Nat) (o : ByteArray), 1 ≤ j ∧ j ≤ x.size ∧ kv = .int .i64 j ∧ sv = .string o ∧ o.size ≤ 3 * j ∧ Hid (o.data.toList ++ scan (x.data.toList.drop (j - 1)) = il) ∧ Below wo.heap.size wo wi) (fun _ kv _ => x.size - (intOf kv).toNat)
      case atStart =>
        refine ⟨1, _, Nat.le_refl _, hpx, rfl, rfl, ?_, Lib.hid ?_, Below.refl _ _⟩
        · rw [HT1.out, ByteArray.size_append, sz1, sz1]; omega
        · rw [HT1.out, HIs.out]; simp
      case round =>
        obtain ⟨j, o, hj1, hj, rfl, rfl, ho, HS, hbi⟩ := hrel
        by_cases hjx : j < x.size
        · have hjp : j - 1 < x.size := by omega
          have HSc := Lib.hid (scan_drop x (j - 1) (by omega))
          have ej : j - 1 + 1 = j := by omega
          have HSj : Hid (scan (x.data.toList.drop (j - 1)) = (if x[j - 1] = 45 then [45, Lib.upperB x[j], 46] else []) ++ scan (x.data.toList.drop j)) := Lib.hid (by
            have := HSc.out
            simp only [ej] at this
            exact this)
          clear HSc ej
          by_cases hq : x[j - 1] = 45
          · have hqb : ((x[j - 1].toNat : Int) == 45) = true := by rw [hq]; rfl
            rw [if_pos hq] at HSj
            clear hq
            cases hlo : isLo x[j] with
            | true =>
              have HLo := Lib.hid hlo
              have hlb : 97 ≤ x[j].toNat ∧ x[j].toNat ≤ 122 := by unfold isLo at hlo; simpa using hlo
              have HUp := Lib.hid (up_lo2 hlo)
              have hcv := str1 wr ((x[j].toNat : Int) - 32)
              clear hlo
              go_wp2_with fail
              refine (lo_s _ true _ HLo.out).mono ?_
              rintro e w' ⟨rfl, rfl⟩
              go_wp2_with fail
              go_roundw
              case rel =>
                refine ⟨j + 1, _, by omega, by omega, by go_num, rfl, ?_, Lib.hid ?_, hbi.alloc (by have := hbi.size; omega) _⟩
                · rw [psz3]; omega
                · rw [plus3, ← HUp.out, ← HS.out, HSj.out]; simp
              case measure => simp [intOf]; omega
            | false =>
              have HLo := Lib.hid hlo
              have HUp := Lib.hid (up_no hlo)
              have hcv := str1 wr (x[j].toNat : Int)
              clear hlo
              go_wp2_with fail
              refine (lo_s _ false _ HLo.out).mono ?_
              rintro e w' ⟨rfl, rfl⟩
              go_wp2_with fail
              go_roundw
              case rel =>
                refine ⟨j + 1, _, by omega, by omega, by go_num, rfl, ?_, Lib.hid ?_, hbi.alloc (by have := hbi.size; omega) _⟩
                · rw [psz3]; omega
                · rw [plus3, ← HS.out, HSj.out, HUp.out]; simp
              case measure => simp [intOf]; omega
          · have hqb : ((x[j - 1].toNat : Int) == 45) = false := by
              rw [beq_eq_false_iff_ne]; intro e; exact hq (UInt8.toNat_inj.1 (by show x[j - 1].toNat = 45; omega))
            rw [if_neg hq] at HSj
            clear hq
            go_wp2_with fail
            go_roundw
            case rel => exact ⟨j + 1, o, by omega, by omega, by go_num, rfl, by omega, Lib.hid (by rw [← HS.out, HSj.out]; rfl), hbi⟩
            case measure => simp [intOf]; omega
        · have HOi : Hid (o = ba il) := Lib.hid (by
            have := HS.out
            rw [scan_end x (j - 1) (by omega), List.append_nil] at this
            exact eq_ba this)
          have hown1 := own_below HO.out hbi
          have hbe1 := HBe.out.trans (hbi.mono hbs)
          have hbs1 : W0.heap.size ≤ wr.heap.size := Nat.le_trans hbs hbi.size
          go_wp2_with (first
            | (at_builtin; refine wpList_append_own _ rfl _ _ 61 rfl W0.heap.size 9 i0 (.string ByteArray.empty) 1 16 Tryz.underlying61 hi hz0 hz1 hz2 rfl (by decide) _ _ _ rfl (hown1.alloc _) ⟨wr.heap.size, 0, none⟩ 1 1 [.string o] rfl rfl (cell_one_new _ _ _) (by simp [Value.oneCell']) (by unfold maxLen; omega) (by omega) (by simp; omega) ?_; intro v' w2 hown' hgrow _)
            | go_in)
          go_roundw
          case rel =>
            refine ⟨k + 1, by omega, by go_num, ?_, ?_⟩
            · rw [HT.out, ← HOi.out]; simpa using hown'
            · exact (hbe1.alloc hbs1 _).grown hgrow (by simp; omega) (fun g hg => (hown1.lt g hg).1)
          case measure => simp [intOf]; omega
    · obtain rfl : k = n := by omega
      have HT : Hid (xs.take k = xs) := Lib.hid (List.take_of_length_le (by rw [HN.out]; omega))
      rw [HT.out] at hown
      have hLn := inis_lens (caps_size HCp.out)
      rw [HN.out] at hLn
      obtain ⟨A1, c1, rfl, _, rd1, _⟩ := own_rds hown
      have HJ := Lib.hid (l2Join A1 c1 k (inis xs) wo rd1 (by rw [inis_len, HN.out]) (by omega))
      have HE : Hid (ba (iniL xs p f s) = ba (jn (ls (inis xs)))) := Lib.hid rfl
      clear hown rd1
      go_wp2_with fail
      refine HJ.out.mono ?_
      rintro e w2 ⟨rfl, rfl⟩
      go_wp2_with fail
      go_ret
      exact ⟨by rw [HE.out]; rfl, HB.out.trans (hbe.mono HB.out.size)⟩
theorem okN_three {xs : List ByteArray} {p f s : ByteArray} (h : okN xs p f s = true) : xs.length ≤ 3 := by
  rw [okN_eq] at h
  simp only [Bool.and_eq_true, decide_eq_true_eq] at h
  exact h.1.1.1.2

end Go.Proofs.YteccmlpibbchbaaGreatDoor.Ini
/-
  Contracts of spec.l2Short and impl.shortForm.
-/
namespace Go.Proofs.YteccmlpibbchbaaGreatDoor.Ini
open Go.RowKit Pl Strs Help Name Stands SplitPl NmPl Word Part NGood Forms Cut IniPl

/-- the short form -/
def shortL (xs : List ByteArray) (p f s : ByteArray) : List UInt8 := jn [iniL xs p f s, p.data.toList, f.data.toList]

set_option maxHeartbeats 2000000 in
theorem l2Short (A : Option Addr) (c n : Nat) (xs : List ByteArray) (p f s : ByteArray) (w : World) (h : Rdn w A n xs) (hcp : ∀ x ∈ ls xs, capB x = true) (hn3 : n ≤ 1000) (hlim : n + lens xs + p.size + f.size + s.size ≤ 2097152) :
    Calls Tryz.prog 113 #[nmV (.slice A n c) p f s] w fun e w' => e = .returned (.string (ba (shortL xs p f s))) ∧ Below w.heap.size w w' := by
  have HB := Lib.hid ((Below.refl _ w).alloc (Nat.le_refl _) (.cells #[.slice A n c, .string p, .string f, .string s] 111))
  have HR := Lib.hid (h.below HB.out)
  have HC := Lib.hid (C4.new w (.slice A n c) p f s 111)
  have HE : Hid (shortL xs p f s = jn (ls [ba (iniL xs p f s), p, f])) := Lib.hid (by simp [shortL, ls, toList_ba])
  have hg : (ba (iniL xs p f s)).size ≤ 1048576 := by
    rw [ba_size]
    have h1 := jn_len (inis xs)
    have h2 := inis_lens (caps_size hcp)
    rw [inis_len] at h1
    have h3 := h.2.2
    unfold iniL
    omega
  have HG := Lib.hid (fun w' (hk : Below (w.alloc (.cells #[.slice A n c, .string p, .string f, .string s] 111)).heap.size (w.alloc (.cells #[.slice A n c, .string p, .string f, .string s] 111)) w') => l2Initials A c n xs p f s w' (HR.out.below hk) hcp hn3)
  clear h hcp
  generalize ba (iniL xs p f s) = gv at *
  go_enter Tryz.func113, Tryz.ntmps113
  go_wp2_with fail
  generalize w.alloc (.cells #[.slice A n c, .string p, .string f, .string s] 111) = W0 at *
  have HS : Hid (∀ w', Kept W0 w' → ((w'.cell? ⟨w.heap.size, 0, none⟩ = some (.slice A n c) ∧ w'.cell? ⟨w.heap.size, 1, none⟩ = some (.string p) ∧ w'.cell? ⟨w.heap.size, 2, none⟩ = some (.string f) ∧ w'.cell? ⟨w.heap.size, 3, none⟩ = some (.string s)) ∧ Kept W0 w')) := Lib.hid (fun w' h => ⟨(HC.out.below h).2, h⟩)
  have HK0 := Lib.hid (Kept.drew W0)
  go_region_held3 (fun w' => (w'.cell? ⟨w.heap.size, 0, none⟩ = some (.slice A n c) ∧ w'.cell? ⟨w.heap.size, 1, none⟩ = some (.string p) ∧ w'.cell? ⟨w.heap.size, 2, none⟩ = some (.string f) ∧ w'.cell? ⟨w.heap.size, 3, none⟩ = some (.string s)) ∧ Kept W0 w')
    (first | exact HS.out _ HK0.out | exact HS.out _ (by assumption) | exact HS.out _ (Kept.alloc (by assumption) _))
    (first
      | (go_at_call 129; refine (HG.out _ HK0.out).mono ?_; rintro e w7 ⟨rfl, b7⟩; have hk7 : Kept W0 w7 := Kept.next HK0.out b7)
      | (go_at_call 112; refine (l2Join _ _ 3 [gv, p, f] _ (rds_lit rfl) rfl (by simp [lens]; omega)).mono ?_; rintro e w8 ⟨rfl, rfl⟩))
  go_wp2_with fail
  go_ret
  exact ⟨by rw [HE.out]; rfl, HB.out.trans (Below.mono (Kept.alloc hk7 _) HB.out.size)⟩

set_option maxHeartbeats 2000000 in
theorem implShort (A : Option Addr) (c n : Nat) (xs : List ByteArray) (p f s : ByteArray) (w : World) (h : Rdn w A n xs) (hcp : ∀ x ∈ ls xs, capB x = true) (hn3 : n ≤ 1000) (hlim : n + lens xs + p.size + f.size + s.size ≤ 2097152) :
    Calls Tryz.prog 120 #[nmV (.slice A n c) p f s] w fun e w' => e = .returned (.string (ba (shortL xs p f s))) ∧ Below w.heap.size w w' := by
  have HB := Lib.hid ((Below.refl _ w).alloc (Nat.le_refl _) (.cells #[.slice A n c, .string p, .string f, .string s] 111))
  have HR := Lib.hid (h.below HB.out)
  have HC := Lib.hid (C4.new w (.slice A n c) p f s 111)
  have HE : Hid (shortL xs p f s = jn (ls [ba (iniL xs p f s), p, f])) := Lib.hid (by simp [shortL, ls, toList_ba])
  have hg : (ba (iniL xs p f s)).size ≤ 1048576 := by
    rw [ba_size]
    have h1 := jn_len (inis xs)
    have h2 := inis_lens (caps_size hcp)
    rw [inis_len] at h1
    have h3 := h.2.2
    unfold iniL
    omega
  have HG := Lib.hid (fun w' (hk : Below (w.alloc (.cells #[.slice A n c, .string p, .string f, .string s] 111)).heap.size (w.alloc (.cells #[.slice A n c, .string p, .string f, .string s] 111)) w') => implInitials A c n xs p f s w' (HR.out.below hk) hcp hn3)
  clear h hcp
  generalize ba (iniL xs p f s) = gv at *
  go_enter Tryz.func120, Tryz.ntmps120
  go_wp2_with fail
  generalize w.alloc (.cells #[.slice A n c, .string p, .string f, .string s] 111) = W0 at *
  have HS : Hid (∀ w', Kept W0 w' → ((w'.cell? ⟨w.heap.size, 0, none⟩ = some (.slice A n c) ∧ w'.cell? ⟨w.heap.size, 1, none⟩ = some (.string p) ∧ w'.cell? ⟨w.heap.size, 2, none⟩ = some (.string f) ∧ w'.cell? ⟨w.heap.size, 3, none⟩ = some (.string s)) ∧ Kept W0 w')) := Lib.hid (fun w' h => ⟨(HC.out.below h).2, h⟩)
  have HK0 := Lib.hid (Kept.drew W0)
  go_region_held3 (fun w' => (w'.cell? ⟨w.heap.size, 0, none⟩ = some (.slice A n c) ∧ w'.cell? ⟨w.heap.size, 1, none⟩ = some (.string p) ∧ w'.cell? ⟨w.heap.size, 2, none⟩ = some (.string f) ∧ w'.cell? ⟨w.heap.size, 3, none⟩ = some (.string s)) ∧ Kept W0 w')
    (first | exact HS.out _ HK0.out | exact HS.out _ (by assumption) | exact HS.out _ (Kept.alloc (by assumption) _))
    (first
      | (go_at_call 135; refine (HG.out _ HK0.out).mono ?_; rintro e w7 ⟨rfl, b7⟩; have hk7 : Kept W0 w7 := Kept.next HK0.out b7)
      | (go_at_call 122; refine (joinPresent _ _ 3 [gv, p, f] _ ⟨rds_lit rfl, (fun _ a ha => by cases ha; simp), rfl⟩ (by simp [lens]; omega)).mono ?_; rintro e w8 ⟨rfl, b8⟩; have hk8 : Kept W0 w8 := Kept.next (Kept.alloc hk7 _) b8))
  go_wp2_with fail
  go_ret
  exact ⟨by rw [HE.out]; rfl, HB.out.trans (Below.mono hk8 HB.out.size)⟩

end Go.Proofs.YteccmlpibbchbaaGreatDoor.Ini
