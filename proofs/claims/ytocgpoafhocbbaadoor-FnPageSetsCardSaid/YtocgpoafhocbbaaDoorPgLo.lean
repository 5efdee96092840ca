/-
  Contracts of LocatorText, of the program and of the model.
-/
import Derived.Test.YtocgpoafhocbbaaDoorPgF2
import Derived.Test.YtocgpoafhocbbaaDoorPgM4
import Derived.OwnWalk
namespace Go.Proofs.YtocgpoafhocbbaaDoor.PgLo
open Go.RowKit Pl PgPl PgTx Pg PgF PgMe PgM
open Num (Tab Tab.below)
set_option linter.unusedSimpArgs false
set_option linter.unusedVariables false

/-- the abbreviations of a label, and whether there is such a label -/
def lab (s : ByteArray) : ByteArray × ByteArray × Bool := if s.toList == [112, 97, 103, 101] then ⟨⟨#[112, 46]⟩, ⟨#[112, 112, 46]⟩, true⟩ else if s.toList == [108, 105, 110, 101] then ⟨⟨#[108, 46]⟩, ⟨#[108, 108, 46]⟩, true⟩ else if s.toList == [99, 104, 97, 112, 116, 101, 114] then ⟨⟨#[99, 104, 46]⟩, ⟨#[99, 104, 115, 46]⟩, true⟩ else if s.toList == [115, 101, 99, 116, 105, 111, 110] then ⟨⟨#[115, 101, 99, 46]⟩, ⟨#[115, 101, 99, 115, 46]⟩, true⟩ else ⟨⟨#[]⟩, ⟨#[]⟩, false⟩
def locZ (s : ByteArray) (L : List Pr) : Bool := (lab s).2.2 && okL L
def locT (s : ByteArray) (L : List Pr) : ByteArray := ((if 1 < cnt (mL L) then (lab s).2.1 else (lab s).1) ++ ⟨#[32]⟩) ++ ba (lT L)
def locS (z : Bool) (s : ByteArray) (L : List Pr) : ByteArray := if z then locT s L else ⟨#[]⟩
theorem lab_size (s : ByteArray) : (lab s).1.size ≤ 5 ∧ (lab s).2.1.size ≤ 5 := by
  unfold lab
  repeat' split
  all_goals exact ⟨by decide, by decide⟩
theorem one32 : (ByteArray.mk #[32]).size = 1 := rfl

set_option maxHeartbeats 1000000 in
theorem abbr_i (s : ByteArray) (a b : ByteArray) (r : Bool) (w : World) (h : lab s = (a, b, r)) :
    Calls Tryd.prog 23 #[.string s] w fun e w' => e = .returned (.tuple #[.string a, .string b, .bool r]) ∧ w = w' := by
  have HL : Hid ((if s.toList == [112, 97, 103, 101] then ⟨⟨#[112, 46]⟩, ⟨#[112, 112, 46]⟩, true⟩ else if s.toList == [108, 105, 110, 101] then ⟨⟨#[108, 46]⟩, ⟨#[108, 108, 46]⟩, true⟩ else if s.toList == [99, 104, 97, 112, 116, 101, 114] then ⟨⟨#[99, 104, 46]⟩, ⟨#[99, 104, 115, 46]⟩, true⟩ else if s.toList == [115, 101, 99, 116, 105, 111, 110] then ⟨⟨#[115, 101, 99, 46]⟩, ⟨#[115, 101, 99, 115, 46]⟩, true⟩ else ⟨⟨#[]⟩, ⟨#[]⟩, false⟩ : ByteArray × ByteArray × Bool) = (a, b, r)) := Lib.hid h
  clear h
  cases h0 : (s.toList == [112, 97, 103, 101]) with
  | true =>
    rw [h0, if_pos rfl] at HL
    have hh := HL.out
    cases hh
    clear HL
    go_enter Tryd.func23, Tryd.ntmps23
    go_wp2_with fail
    go_ret3
    exact ⟨rfl, rfl⟩
  | false =>
    rw [h0, if_neg Bool.false_ne_true] at HL
    cases h1 : (s.toList == [108, 105, 110, 101]) with
    | true =>
      rw [h1, if_pos rfl] at HL
      have hh := HL.out
      cases hh
      clear HL
      go_enter Tryd.func23, Tryd.ntmps23
      go_wp2_with fail
      go_ret3
      exact ⟨rfl, rfl⟩
    | false =>
      rw [h1, if_neg Bool.false_ne_true] at HL
      cases h2 : (s.toList == [99, 104, 97, 112, 116, 101, 114]) with
      | true =>
        rw [h2, if_pos rfl] at HL
        have hh := HL.out
        cases hh
        clear HL
        go_enter Tryd.func23, Tryd.ntmps23
        go_wp2_with fail
        go_ret3
        exact ⟨rfl, rfl⟩
      | false =>
        rw [h2, if_neg Bool.false_ne_true] at HL
        cases h3 : (s.toList == [115, 101, 99, 116, 105, 111, 110]) with
        | true =>
          rw [h3, if_pos rfl] at HL
          have hh := HL.out
          cases hh
          clear HL
          go_enter Tryd.func23, Tryd.ntmps23
          go_wp2_with fail
          go_ret3
          exact ⟨rfl, rfl⟩
        | false =>
          rw [h3, if_neg Bool.false_ne_true] at HL
          have hh := HL.out
          cases hh
          clear HL
          go_enter Tryd.func23, Tryd.ntmps23
          go_wp2_with fail
          go_ret3
          exact ⟨rfl, rfl⟩

set_option maxHeartbeats 4000000 in
theorem loc_i (s : ByteArray) (A : Option Addr) (c N : Nat) (L : List Pr) (z : Bool) (q : ByteArray) (w : World) (h : RdP w A L) (hn : L.length = N) (hN : N ≤ 1048576) (hT : Tab w) (hz : locZ s L = z) (hq : locS z s L = q) :
    Calls Tryd.prog 12 #[.string s, .slice A N c] w fun e w' => e = .returned (.tuple #[.string q, .bool z]) ∧ Below w.heap.size w w' := by
  obtain ⟨a, b, r, hab⟩ : ∃ a b r, lab s = (a, b, r) := ⟨_, _, _, rfl⟩
  have HA := Lib.hid (fun w => abbr_i s a b r w hab)
  have hsz := lab_size s
  rw [hab] at hsz
  obtain ⟨hsa, hsb⟩ := hsz
  dsimp only at hsa hsb
  have HZ : Hid ((r && okL L) = z) := Lib.hid (by rw [← hz]; unfold locZ; rw [hab])
  have HQt : Hid (locT s L = ((if 1 < cnt (mL L) then b else a) ++ ⟨#[32]⟩) ++ ba (lT L)) := Lib.hid (by unfold locT; rw [hab])
  cases r with
  | false =>
    have HZ' : Hid (z = false) := Lib.hid (by rw [← HZ.out]; rfl)
    have HQ' : Hid (q = ⟨#[]⟩) := Lib.hid (by rw [← hq, HZ'.out]; rfl)
    clear h hz hq hT hab HQt HZ
    go_enter Tryd.func12, Tryd.ntmps12
    go_wp2_with fail
    refine (HA.out _).mono ?_
    rintro e w1 ⟨rfl, rfl⟩
    go_wp2_with fail
    go_ret2
    exact ⟨by rw [HQ'.out, HZ'.out]; rfl, Below.refl _ _⟩
  | true =>
    cases hg : okL L with
    | false =>
      have HG := Lib.hid (pages_i A c N L false w h hn hN hg)
      have HZ' : Hid (z = false) := Lib.hid (by rw [← HZ.out, hg]; rfl)
      have HQ' : Hid (q = ⟨#[]⟩) := Lib.hid (by rw [← hq, HZ'.out]; rfl)
      clear h hz hq hT hab HQt HZ hg
      go_enter Tryd.func12, Tryd.ntmps12
      go_wp2_with fail
      refine (HA.out _).mono ?_
      rintro e w1 ⟨rfl, rfl⟩
      go_wp2_with fail
      refine HG.out.mono ?_
      rintro e w2 ⟨rfl, b2⟩
      go_wp2_with fail
      go_ret2
      exact ⟨by rw [HQ'.out, HZ'.out]; rfl, b2⟩
    | true =>
      have HG := Lib.hid (pages_i A c N L true w h hn hN hg)
      obtain ⟨h1, h8, hok⟩ := okL_yes hg
      have HZ' : Hid (z = true) := Lib.hid (by rw [← HZ.out, hg]; rfl)
      have HQ' : Hid (q = locT s L) := Lib.hid (by rw [← hq, HZ'.out]; rfl)
      have HC := Lib.hid (fun w' (hb : Below w.heap.size w w') => count_i A c N L w' (h.below hb) hn (by omega) (by omega) hok)
      have HX := Lib.hid (fun w' (hb : Below w.heap.size w w') => text_i A c N L w' (h.below hb) hn (by omega) hok (hT.below hb))
      have htl : (ba (lT L)).size ≤ 120 := by rw [ba_size]; have := lT_len hok; omega
      clear h hz hq hT hab HZ hg hok
      generalize cnt (mL L) = v at *
      generalize ba (lT L) = t at *
      by_cases hv : 1 < v
      · rw [if_pos hv] at HQt
        have hs1 : (b ++ (⟨#[32]⟩ : ByteArray)).size ≤ 6 := by rw [ByteArray.size_append, one32]; omega
        go_enter Tryd.func12, Tryd.ntmps12
        go_wp2_with fail
        refine (HA.out _).mono ?_
        rintro e w1 ⟨rfl, rfl⟩
        go_wp2_with fail
        refine HG.out.mono ?_
        rintro e w2 ⟨rfl, b2⟩
        go_wp2_with fail
        refine (HC.out _ b2).mono ?_
        rintro e w3 ⟨rfl, b3⟩
        have k3 := b2.trans (b3.mono b2.size)
        clear b2 b3
        go_wp2_with fail
        refine (HX.out _ k3).mono ?_
        rintro e w4 ⟨rfl, b4⟩
        have k4 := k3.trans (b4.mono k3.size)
        clear k3 b4
        go_wp2_with fail
        go_ret2
        exact ⟨by rw [HQ'.out, HZ'.out, HQt.out]; rfl, k4⟩
      · rw [if_neg hv] at HQt
        have hs1 : (a ++ (⟨#[32]⟩ : ByteArray)).size ≤ 6 := by rw [ByteArray.size_append, one32]; omega
        go_enter Tryd.func12, Tryd.ntmps12
        go_wp2_with fail
        refine (HA.out _).mono ?_
        rintro e w1 ⟨rfl, rfl⟩
        go_wp2_with fail
        refine HG.out.mono ?_
        rintro e w2 ⟨rfl, b2⟩
        go_wp2_with fail
        refine (HC.out _ b2).mono ?_
        rintro e w3 ⟨rfl, b3⟩
        have k3 := b2.trans (b3.mono b2.size)
        clear b2 b3
        go_wp2_with fail
        refine (HX.out _ k3).mono ?_
        rintro e w4 ⟨rfl, b4⟩
        have k4 := k3.trans (b4.mono k3.size)
        clear k3 b4
        go_wp2_with fail
        go_ret2
        exact ⟨by rw [HQ'.out, HZ'.out, HQt.out]; rfl, k4⟩

set_option maxHeartbeats 8000000 in
theorem loc_s (s : ByteArray) (A : Option Addr) (c N : Nat) (L : List Pr) (z : Bool) (q : ByteArray) (w : World) (h : RdP w A L) (hn : L.length = N) (hN : N ≤ 1048576) (hz : locZ s L = z) (hq : locS z s L = q) :
    Calls Tryd.prog 13 #[.string s, .slice A N c] w fun e w' => e = .returned (.tuple #[.string q, .bool z]) ∧ Below w.heap.size w w' := by
  obtain ⟨a, b, r, hab⟩ : ∃ a b r, lab s = (a, b, r) := ⟨_, _, _, rfl⟩
  have HL : Hid ((if s.toList == [112, 97, 103, 101] then ⟨⟨#[112, 46]⟩, ⟨#[112, 112, 46]⟩, true⟩ else if s.toList == [108, 105, 110, 101] then ⟨⟨#[108, 46]⟩, ⟨#[108, 108, 46]⟩, true⟩ else if s.toList == [99, 104, 97, 112, 116, 101, 114] then ⟨⟨#[99, 104, 46]⟩, ⟨#[99, 104, 115, 46]⟩, true⟩ else if s.toList == [115, 101, 99, 116, 105, 111, 110] then ⟨⟨#[115, 101, 99, 46]⟩, ⟨#[115, 101, 99, 115, 46]⟩, true⟩ else ⟨⟨#[]⟩, ⟨#[]⟩, false⟩ : ByteArray × ByteArray × Bool) = (a, b, r)) := Lib.hid hab
  have hsz := lab_size s
  rw [hab] at hsz
  obtain ⟨hsa, hsb⟩ := hsz
  dsimp only at hsa hsb
  have HZ : Hid ((r && okL L) = z) := Lib.hid (by rw [← hz]; unfold locZ; rw [hab])
  have HQt : Hid (locT s L = ((if 1 < cnt (mL L) then b else a) ++ ⟨#[32]⟩) ++ ba (lT L)) := Lib.hid (by unfold locT; rw [hab])
  cases hg : okL L with
  | false =>
    have HG := Lib.hid (good_s A c N L false w h hn hN hg)
    have HZ' : Hid (z = false) := Lib.hid (by rw [← HZ.out, hg]; simp)
    have HQ' : Hid (q = ⟨#[]⟩) := Lib.hid (by rw [← hq, HZ'.out]; rfl)
    clear h hz hq hab HQt HZ hg HL
    go_enter Tryd.func13, Tryd.ntmps13
    go_wp2_with fail
    refine HG.out.mono ?_
    rintro e w2 ⟨rfl, b2⟩
    go_wp2_with fail
    go_ret2
    exact ⟨by rw [HQ'.out, HZ'.out]; rfl, b2⟩
  | true =>
    have HG := Lib.hid (good_s A c N L true w h hn hN hg)
    obtain ⟨h1, h8, hok⟩ := okL_yes hg
    have HC := Lib.hid (fun w' (hb : Below w.heap.size w w') => count_s A c N L w' (h.below hb) hn (by omega) (by omega) hok)
    have HX := Lib.hid (fun w' (hb : Below w.heap.size w w') => list_s A c N L w' (h.below hb) hn (by omega) hok)
    have htl : (ba (lT L)).size ≤ 120 := by rw [ba_size]; have := lT_len hok; omega
    rw [hg, Bool.and_true] at HZ
    have HQz : Hid (q = if z then locT s L else ⟨#[]⟩) := Lib.hid hq.symm
    clear h hz hq hab hg hok
    generalize cnt (mL L) = v at *
    generalize ba (lT L) = t at *
    cases h0 : (s.toList == [112, 97, 103, 101]) with
    | true =>
      rw [h0, if_pos rfl] at HL
      by_cases hv : 1 < v
      · have hh := HL.out
        cases hh
        have HZ' : Hid (z = true) := Lib.hid HZ.out.symm
        rw [if_pos hv] at HQt
        have HQ' : Hid (q = ((⟨#[112, 112, 46]⟩ : ByteArray) ++ ⟨#[32]⟩) ++ t) := Lib.hid (by rw [HQz.out, HZ'.out, if_pos rfl]; exact HQt.out)
        have hs1 : ((⟨#[112, 112, 46]⟩ : ByteArray) ++ (⟨#[32]⟩ : ByteArray)).size ≤ 6 := by decide
        clear HL HZ HQz HQt
        go_enter Tryd.func13, Tryd.ntmps13
        go_wp2_with fail
        refine HG.out.mono ?_
        rintro e w2 ⟨rfl, b2⟩
        go_wp2_with fail
        refine (HC.out _ b2).mono ?_
        rintro e w3 ⟨rfl, b3⟩
        have k3 := b2.trans (b3.mono b2.size)
        clear b2 b3
        go_wp2_with fail
        refine (HX.out _ k3).mono ?_
        rintro e w4 ⟨rfl, b4⟩
        have k4 := k3.trans (b4.mono k3.size)
        clear k3 b4
        go_wp2_with fail
        go_ret2
        exact ⟨by rw [HQ'.out, HZ'.out]; rfl, k4⟩
      · have hh := HL.out
        cases hh
        have HZ' : Hid (z = true) := Lib.hid HZ.out.symm
        rw [if_neg hv] at HQt
        have HQ' : Hid (q = ((⟨#[112, 46]⟩ : ByteArray) ++ ⟨#[32]⟩) ++ t) := Lib.hid (by rw [HQz.out, HZ'.out, if_pos rfl]; exact HQt.out)
        have hs1 : ((⟨#[112, 46]⟩ : ByteArray) ++ (⟨#[32]⟩ : ByteArray)).size ≤ 6 := by decide
        clear HL HZ HQz HQt
        go_enter Tryd.func13, Tryd.ntmps13
        go_wp2_with fail
        refine HG.out.mono ?_
        rintro e w2 ⟨rfl, b2⟩
        go_wp2_with fail
        refine (HC.out _ b2).mono ?_
        rintro e w3 ⟨rfl, b3⟩
        have k3 := b2.trans (b3.mono b2.size)
        clear b2 b3
        go_wp2_with fail
        refine (HX.out _ k3).mono ?_
        rintro e w4 ⟨rfl, b4⟩
        have k4 := k3.trans (b4.mono k3.size)
        clear k3 b4
        go_wp2_with fail
        go_ret2
        exact ⟨by rw [HQ'.out, HZ'.out]; rfl, k4⟩
    | false =>
      rw [h0, if_neg Bool.false_ne_true] at HL
      cases h1 : (s.toList == [108, 105, 110, 101]) with
      | true =>
        rw [h1, if_pos rfl] at HL
        by_cases hv : 1 < v
        · have hh := HL.out
          cases hh
          have HZ' : Hid (z = true) := Lib.hid HZ.out.symm
          rw [if_pos hv] at HQt
          have HQ' : Hid (q = ((⟨#[108, 108, 46]⟩ : ByteArray) ++ ⟨#[32]⟩) ++ t) := Lib.hid (by rw [HQz.out, HZ'.out, if_pos rfl]; exact HQt.out)
          have hs1 : ((⟨#[108, 108, 46]⟩ : ByteArray) ++ (⟨#[32]⟩ : ByteArray)).size ≤ 6 := by decide
          clear HL HZ HQz HQt
          go_enter Tryd.func13, Tryd.ntmps13
          go_wp2_with fail
          refine HG.out.mono ?_
          rintro e w2 ⟨rfl, b2⟩
          go_wp2_with fail
          refine (HC.out _ b2).mono ?_
          rintro e w3 ⟨rfl, b3⟩
          have k3 := b2.trans (b3.mono b2.size)
          clear b2 b3
          go_wp2_with fail
          refine (HX.out _ k3).mono ?_
          rintro e w4 ⟨rfl, b4⟩
          have k4 := k3.trans (b4.mono k3.size)
          clear k3 b4
          go_wp2_with fail
          go_ret2
          exact ⟨by rw [HQ'.out, HZ'.out]; rfl, k4⟩
        · have hh := HL.out
          cases hh
          have HZ' : Hid (z = true) := Lib.hid HZ.out.symm
          rw [if_neg hv] at HQt
          have HQ' : Hid (q = ((⟨#[108, 46]⟩ : ByteArray) ++ ⟨#[32]⟩) ++ t) := Lib.hid (by rw [HQz.out, HZ'.out, if_pos rfl]; exact HQt.out)
          have hs1 : ((⟨#[108, 46]⟩ : ByteArray) ++ (⟨#[32]⟩ : ByteArray)).size ≤ 6 := by decide
          clear HL HZ HQz HQt
          go_enter Tryd.func13, Tryd.ntmps13
          go_wp2_with fail
          refine HG.out.mono ?_
          rintro e w2 ⟨rfl, b2⟩
          go_wp2_with fail
          refine (HC.out _ b2).mono ?_
          rintro e w3 ⟨rfl, b3⟩
          have k3 := b2.trans (b3.mono b2.size)
          clear b2 b3
          go_wp2_with fail
          refine (HX.out _ k3).mono ?_
          rintro e w4 ⟨rfl, b4⟩
          have k4 := k3.trans (b4.mono k3.size)
          clear k3 b4
          go_wp2_with fail
          go_ret2
          exact ⟨by rw [HQ'.out, HZ'.out]; rfl, k4⟩
      | false =>
        rw [h1, if_neg Bool.false_ne_true] at HL
        cases h2 : (s.toList == [99, 104, 97, 112, 116, 101, 114]) with
        | true =>
          rw [h2, if_pos rfl] at HL
          by_cases hv : 1 < v
          · have hh := HL.out
            cases hh
            have HZ' : Hid (z = true) := Lib.hid HZ.out.symm
            rw [if_pos hv] at HQt
            have HQ' : Hid (q = ((⟨#[99, 104, 115, 46]⟩ : ByteArray) ++ ⟨#[32]⟩) ++ t) := Lib.hid (by rw [HQz.out, HZ'.out, if_pos rfl]; exact HQt.out)
            have hs1 : ((⟨#[99, 104, 115, 46]⟩ : ByteArray) ++ (⟨#[32]⟩ : ByteArray)).size ≤ 6 := by decide
            clear HL HZ HQz HQt
            go_enter Tryd.func13, Tryd.ntmps13
            go_wp2_with fail
            refine HG.out.mono ?_
            rintro e w2 ⟨rfl, b2⟩
            go_wp2_with fail
            refine (HC.out _ b2).mono ?_
            rintro e w3 ⟨rfl, b3⟩
            have k3 := b2.trans (b3.mono b2.size)
            clear b2 b3
            go_wp2_with fail
            refine (HX.out _ k3).mono ?_
            rintro e w4 ⟨rfl, b4⟩
            have k4 := k3.trans (b4.mono k3.size)
            clear k3 b4
            go_wp2_with fail
            go_ret2
            exact ⟨by rw [HQ'.out, HZ'.out]; rfl, k4⟩
          · have hh := HL.out
            cases hh
            have HZ' : Hid (z = true) := Lib.hid HZ.out.symm
            rw [if_neg hv] at HQt
            have HQ' : Hid (q = ((⟨#[99, 104, 46]⟩ : ByteArray) ++ ⟨#[32]⟩) ++ t) := Lib.hid (by rw [HQz.out, HZ'.out, if_pos rfl]; exact HQt.out)
            have hs1 : ((⟨#[99, 104, 46]⟩ : ByteArray) ++ (⟨#[32]⟩ : ByteArray)).size ≤ 6 := by decide
            clear HL HZ HQz HQt
            go_enter Tryd.func13, Tryd.ntmps13
            go_wp2_with fail
            refine HG.out.mono ?_
            rintro e w2 ⟨rfl, b2⟩
            go_wp2_with fail
            refine (HC.out _ b2).mono ?_
            rintro e w3 ⟨rfl, b3⟩
            have k3 := b2.trans (b3.mono b2.size)
            clear b2 b3
            go_wp2_with fail
            refine (HX.out _ k3).mono ?_
            rintro e w4 ⟨rfl, b4⟩
            have k4 := k3.trans (b4.mono k3.size)
            clear k3 b4
            go_wp2_with fail
            go_ret2
            exact ⟨by rw [HQ'.out, HZ'.out]; rfl, k4⟩
        | false =>
          rw [h2, if_neg Bool.false_ne_true] at HL
          cases h3 : (s.toList == [115, 101, 99, 116, 105, 111, 110]) with
          | true =>
            rw [h3, if_pos rfl] at HL
            by_cases hv : 1 < v
            · have hh := HL.out
              cases hh
              have HZ' : Hid (z = true) := Lib.hid HZ.out.symm
              rw [if_pos hv] at HQt
              have HQ' : Hid (q = ((⟨#[115, 101, 99, 115, 46]⟩ : ByteArray) ++ ⟨#[32]⟩) ++ t) := Lib.hid (by rw [HQz.out, HZ'.out, if_pos rfl]; exact HQt.out)
              have hs1 : ((⟨#[115, 101, 99, 115, 46]⟩ : ByteArray) ++ (⟨#[32]⟩ : ByteArray)).size ≤ 6 := by decide
              clear HL HZ HQz HQt
              go_enter Tryd.func13, Tryd.ntmps13
              go_wp2_with fail
              refine HG.out.mono ?_
              rintro e w2 ⟨rfl, b2⟩
              go_wp2_with fail
              refine (HC.out _ b2).mono ?_
              rintro e w3 ⟨rfl, b3⟩
              have k3 := b2.trans (b3.mono b2.size)
              clear b2 b3
              go_wp2_with fail
              refine (HX.out _ k3).mono ?_
              rintro e w4 ⟨rfl, b4⟩
              have k4 := k3.trans (b4.mono k3.size)
              clear k3 b4
              go_wp2_with fail
              go_ret2
              exact ⟨by rw [HQ'.out, HZ'.out]; rfl, k4⟩
            · have hh := HL.out
              cases hh
              have HZ' : Hid (z = true) := Lib.hid HZ.out.symm
              rw [if_neg hv] at HQt
              have HQ' : Hid (q = ((⟨#[115, 101, 99, 46]⟩ : ByteArray) ++ ⟨#[32]⟩) ++ t) := Lib.hid (by rw [HQz.out, HZ'.out, if_pos rfl]; exact HQt.out)
              have hs1 : ((⟨#[115, 101, 99, 46]⟩ : ByteArray) ++ (⟨#[32]⟩ : ByteArray)).size ≤ 6 := by decide
              clear HL HZ HQz HQt
              go_enter Tryd.func13, Tryd.ntmps13
              go_wp2_with fail
              refine HG.out.mono ?_
              rintro e w2 ⟨rfl, b2⟩
              go_wp2_with fail
              refine (HC.out _ b2).mono ?_
              rintro e w3 ⟨rfl, b3⟩
              have k3 := b2.trans (b3.mono b2.size)
              clear b2 b3
              go_wp2_with fail
              refine (HX.out _ k3).mono ?_
              rintro e w4 ⟨rfl, b4⟩
              have k4 := k3.trans (b4.mono k3.size)
              clear k3 b4
              go_wp2_with fail
              go_ret2
              exact ⟨by rw [HQ'.out, HZ'.out]; rfl, k4⟩
          | false =>
            rw [h3, if_neg Bool.false_ne_true] at HL
            have hh := HL.out
            cases hh
            have HZ' : Hid (z = false) := Lib.hid HZ.out.symm
            have HQ' : Hid (q = ⟨#[]⟩) := Lib.hid (by rw [HQz.out, HZ'.out]; rfl)
            clear HL HZ HQz HQt
            go_enter Tryd.func13, Tryd.ntmps13
            go_wp2_with fail
            refine HG.out.mono ?_
            rintro e w2 ⟨rfl, b2⟩
            go_wp2_with fail
            go_ret2
            exact ⟨by rw [HQ'.out, HZ'.out]; rfl, b2⟩
end Go.Proofs.YtocgpoafhocbbaaDoor.PgLo
