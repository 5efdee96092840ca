/-
  Contracts of titleChange, sentenceChange, changeLetters.
-/
import Derived.Test.YtobaapabkckblaaGreatDoorBr
import Derived.Test.YtobaapabkckblaaGreatDoorMi
namespace Go.Proofs.YtobaapabkckblaaGreatDoor.Tc
open Go.RowKit Pl NmPl TiPl Word Lt Ra Ca Jo Br Mi
set_option linter.unusedVariables false
set_option linter.unusedSimpArgs false

/-- what the words of a title are -/
def Wds (ws : List (List UInt8)) : Prop := ∀ x ∈ ws, x ≠ [] ∧ x.all prC = true ∧ x.length ≤ 100
def tcK (ws : List (List UInt8)) (i : Nat) (x : List UInt8) : Nat :=
  if brB x = true then 0 else if minorB x = true ∧ starts ws i = false ∧ i + 1 < ws.length then 2 else 1
def scK (ws : List (List UInt8)) (i : Nat) (x : List UInt8) : Nat := if starts ws i = true ∧ brB x = false then 3 else 2
def chg (k : Nat) (x : List UInt8) : List UInt8 := if k = 1 then raise x else if k = 2 then calm x else if k = 3 then raise (calm x) else x
theorem chg_tc (ws : List (List UInt8)) (i : Nat) (x : List UInt8) : chg (tcK ws i x) x = tcF ws i x := by
  unfold tcK tcF
  split
  · rfl
  · rename_i h
    split
    · show calm x = _; exact calm_low (by simpa using h)
    · rfl
theorem chg_sc (ws : List (List UInt8)) (i : Nat) (x : List UInt8) : chg (scK ws i x) x = scF ws i x := by
  unfold scK scF
  split <;> rfl
theorem tcK_le (ws : List (List UInt8)) (i : Nat) (x : List UInt8) : tcK ws i x ≤ 3 := by unfold tcK; split; omega; split <;> omega
theorem scK_le (ws : List (List UInt8)) (i : Nat) (x : List UInt8) : scK ws i x ≤ 3 := by unfold scK; split <;> omega
/-- the words' premises -/
structure Ok (w : World) (A : Option Addr) (n : Nat) (ws : List (List UInt8)) : Prop where
  rd : Rd w A ws
  lt : ∀ a, A = some a → a.block < w.heap.size
  len : ws.length = n
  small : n ≤ 1048577
  good : Wds ws
theorem Ok.below {w w' : World} {A : Option Addr} {n : Nat} {ws : List (List UInt8)} (h : Ok w A n ws) (hb : Below w.heap.size w w') : Ok w' A n ws :=
  ⟨h.rd.below h.lt hb, fun a ha => Nat.lt_of_lt_of_le (h.lt a ha) hb.size, h.len, h.small, h.good⟩
theorem Ok.begins {w : World} {A : Option Addr} {c n i : Nat} {ws : List (List UInt8)} (h : Ok w A n ws) (hi : i < n) (r : Bool) (hr : starts ws i = r) :
    Calls Tryz.prog 60 #[.slice A n c, .int .i64 i] w fun e w' => e = .returned (.bool r) ∧ w = w' :=
  begins_i A c n i ws r w h.rd h.len hi h.small (fun x hx => by have := (h.good x hx).2.2; omega) hr
theorem Ok.starts {w : World} {A : Option Addr} {c n i : Nat} {ws : List (List UInt8)} (h : Ok w A n ws) (hi : i < n) (r : Bool) (hr : TiPl.starts ws i = r) :
    Calls Tryz.prog 32 #[.slice A n c, .int .i64 i] w fun e w' => e = .returned (.bool r) ∧ ∃ q, w' = w.drewN q :=
  starts_s A c n i ws r w h.rd h.len hi h.small (fun x hx => ⟨(h.good x hx).1, by have := (h.good x hx).2.2; omega⟩) hr
/-- the word at a place -/
theorem Ok.at {w : World} {A : Option Addr} {n i : Nat} {ws : List (List UInt8)} (h : Ok w A n ws) {x : List UInt8} (hx : ws[i]? = some x) :
    ∃ g o, A = some ⟨g, o, none⟩ ∧ w.cell? ⟨g, o + i, none⟩ = some (.string (ba x)) := h.rd i x hx
theorem Ok.cell {w : World} {g o n i : Nat} {ws : List (List UInt8)} (h : Ok w (some ⟨g, o, none⟩) n ws) {x : List UInt8} (hx : ws[i]? = some x) : w.cell? ⟨g, o + i, none⟩ = some (.string (ba x)) := by
  obtain ⟨g', o', e, hc⟩ := h.rd i x hx
  simp at e
  obtain ⟨rfl, rfl⟩ := e
  exact hc
theorem brace_w (x : List UInt8) (hx : x.all prC = true) (hl : x.length ≤ 100) (r : Bool) (hr : brB x = r) (w : World) :
    Calls Tryz.prog 54 #[.string (ba x)] w fun e w' => e = .returned (.bool r) ∧ Below w.heap.size w w' :=
  brace_i (ba x) r w (by rw [ba_size]; omega) (by rw [toList_ba]; exact hx) (by rw [toList_ba]; exact hr)
theorem minor_w (x : List UInt8) (hx : x.all prC = true) (hl : x.length ≤ 100) (r : Bool) (hr : minorB x = r) (w : World) :
    Calls Tryz.prog 61 #[.string (ba x)] w fun e w' => e = .returned (.bool r) ∧ Below w.heap.size w w' :=
  minor_i (ba x) w (by rw [ba_size]; omega) (by rw [toList_ba]; exact hx) r (by rw [toList_ba]; exact hr)

set_option maxHeartbeats 4000000 in
theorem title_i (A : Option Addr) (c n i : Nat) (ws : List (List UInt8)) (x : List UInt8) (w : World) (h : Ok w A n ws) (hi : i < n) (hx : ws[i]? = some x) :
    Calls Tryz.prog 26 #[.slice A n c, .int .i64 i] w fun e w' => e = .returned (.int .i64 (tcK ws i x)) ∧ Below w.heap.size w w' := by
  obtain ⟨g, o, rfl, hc⟩ := h.at hx
  obtain ⟨_, hxp, hxl⟩ := h.good x (List.mem_of_getElem? hx)
  have HO := Lib.hid h
  have hx0 := Lib.hid hx
  have hnb := h.small
  have hnl : (n : Int) - 1 = ((n - 1 : Nat) : Int) := by omega
  have HLn := Lib.hid h.len
  have HBr := Lib.hid (fun r h => brace_w x hxp hxl r h)
  have HMi := Lib.hid (fun r h => minor_w x hxp hxl r h)
  clear h hx hxp hxl
  cases hb : brB x with
  | true =>
    have HE : Hid (tcK ws i x = 0) := Lib.hid (by unfold tcK; rw [if_pos hb])
    have HBr' := Lib.hid (HBr.out true hb)
    clear hb HBr
    go_enter Tryz.func26, Tryz.ntmps26
    go_wp2_with fail
    refine (HBr'.out _).mono ?_
    rintro e w1 ⟨rfl, b1⟩
    go_wp2_with fail
    go_ret
    exact ⟨by rw [HE.out]; rfl, b1⟩
  | false =>
    have HBr' := Lib.hid (HBr.out false hb)
    by_cases hlt : i < n - 1
    · have hd : decide (i < n - 1) = true := by simpa using hlt
      cases hs : starts ws i with
      | true =>
        have HE : Hid (tcK ws i x = 1) := Lib.hid (by unfold tcK; rw [if_neg (by rw [hb]; decide), if_neg (fun h => by rw [hs] at h; cases h.2.1)])
        have HS := Lib.hid hs
        clear hb HBr hs hlt
        go_enter Tryz.func26, Tryz.ntmps26
        go_wp2_with fail
        refine (HBr'.out _).mono ?_
        rintro e w1 ⟨rfl, b1⟩
        have HO1 := Lib.hid (HO.out.below b1)
        go_wp2_with fail
        refine (HO1.out.begins hi true HS.out).mono ?_
        rintro e w' ⟨rfl, rfl⟩
        go_wp2_with fail
        go_ret
        exact ⟨by rw [HE.out]; rfl, b1⟩
      | false =>
        cases hm : minorB x with
        | true =>
          have HE : Hid (tcK ws i x = 2) := Lib.hid (by unfold tcK; rw [if_neg (by rw [hb]; decide), if_pos ⟨hm, hs, by rw [HLn.out]; omega⟩])
          have HS := Lib.hid hs
          have HMi' := Lib.hid (HMi.out true hm)
          clear hb HBr hs hlt hm HMi
          go_enter Tryz.func26, Tryz.ntmps26
          go_wp2_with fail
          refine (HBr'.out _).mono ?_
          rintro e w1 ⟨rfl, b1⟩
          have HO1 := Lib.hid (HO.out.below b1)
          have hc1 := HO1.out.cell hx0.out
          go_wp2_with fail
          refine (HO1.out.begins hi false HS.out).mono ?_
          rintro e w' ⟨rfl, rfl⟩
          go_wp2_with fail
          refine (HMi'.out _).mono ?_
          rintro e w2 ⟨rfl, b2⟩
          go_wp2_with fail
          go_ret
          exact ⟨by rw [HE.out]; rfl, b1.trans (b2.mono b1.size)⟩
        | false =>
          have HE : Hid (tcK ws i x = 1) := Lib.hid (by unfold tcK; rw [if_neg (by rw [hb]; decide), if_neg (fun h => by rw [hm] at h; cases h.1)])
          have HS := Lib.hid hs
          have HMi' := Lib.hid (HMi.out false hm)
          clear hb HBr hs hlt hm HMi
          go_enter Tryz.func26, Tryz.ntmps26
          go_wp2_with fail
          refine (HBr'.out _).mono ?_
          rintro e w1 ⟨rfl, b1⟩
          have HO1 := Lib.hid (HO.out.below b1)
          have hc1 := HO1.out.cell hx0.out
          go_wp2_with fail
          refine (HO1.out.begins hi false HS.out).mono ?_
          rintro e w' ⟨rfl, rfl⟩
          go_wp2_with fail
          refine (HMi'.out _).mono ?_
          rintro e w2 ⟨rfl, b2⟩
          go_wp2_with fail
          go_ret
          exact ⟨by rw [HE.out]; rfl, b1.trans (b2.mono b1.size)⟩
    · have hd : decide (i < n - 1) = false := by simpa using hlt
      have HE : Hid (tcK ws i x = 1) := Lib.hid (by unfold tcK; rw [if_neg (by rw [hb]; decide), if_neg (fun h => by have := h.2.2; rw [HLn.out] at this; omega)])
      clear hb HBr hlt
      go_enter Tryz.func26, Tryz.ntmps26
      go_wp2_with fail
      refine (HBr'.out _).mono ?_
      rintro e w1 ⟨rfl, b1⟩
      go_wp2_with fail
      go_ret
      exact ⟨by rw [HE.out]; rfl, b1⟩

set_option maxHeartbeats 4000000 in
theorem sentence_i (A : Option Addr) (c n i : Nat) (ws : List (List UInt8)) (x : List UInt8) (w : World) (h : Ok w A n ws) (hi : i < n) (hx : ws[i]? = some x) :
    Calls Tryz.prog 27 #[.slice A n c, .int .i64 i] w fun e w' => e = .returned (.int .i64 (scK ws i x)) ∧ Below w.heap.size w w' := by
  obtain ⟨g, o, rfl, hc⟩ := h.at hx
  obtain ⟨_, hxp, hxl⟩ := h.good x (List.mem_of_getElem? hx)
  have HO := Lib.hid h
  have hnb := h.small
  have HBr := Lib.hid (fun r h => brace_w x hxp hxl r h)
  clear h hx hxp hxl
  cases hs : starts ws i with
  | false =>
    have HE : Hid (scK ws i x = 2) := Lib.hid (by unfold scK; rw [if_neg (fun h => by rw [hs] at h; cases h.1)])
    have HS := Lib.hid hs
    clear hs
    go_enter Tryz.func27, Tryz.ntmps27
    go_wp2_with fail
    refine (HO.out.begins hi false HS.out).mono ?_
    rintro e w' ⟨rfl, rfl⟩
    go_wp2_with fail
    go_ret
    exact ⟨by rw [HE.out]; rfl, Below.refl _ _⟩
  | true =>
    have HS := Lib.hid hs
    cases hb : brB x with
    | true =>
      have HE : Hid (scK ws i x = 2) := Lib.hid (by unfold scK; rw [if_neg (fun h => by rw [hb] at h; cases h.2)])
      have HBr' := Lib.hid (HBr.out true hb)
      clear hs hb HBr
      go_enter Tryz.func27, Tryz.ntmps27
      go_wp2_with fail
      refine (HO.out.begins hi true HS.out).mono ?_
      rintro e w' ⟨rfl, rfl⟩
      go_wp2_with fail
      refine (HBr'.out _).mono ?_
      rintro e w1 ⟨rfl, b1⟩
      go_wp2_with fail
      go_ret
      exact ⟨by rw [HE.out]; rfl, b1⟩
    | false =>
      have HE : Hid (scK ws i x = 3) := Lib.hid (by unfold scK; rw [if_pos ⟨hs, hb⟩])
      have HBr' := Lib.hid (HBr.out false hb)
      clear hs hb HBr
      go_enter Tryz.func27, Tryz.ntmps27
      go_wp2_with fail
      refine (HO.out.begins hi true HS.out).mono ?_
      rintro e w' ⟨rfl, rfl⟩
      go_wp2_with fail
      refine (HBr'.out _).mono ?_
      rintro e w1 ⟨rfl, b1⟩
      go_wp2_with fail
      go_ret
      exact ⟨by rw [HE.out]; rfl, b1⟩

theorem raise_w (x : List UInt8) (hl : x.length ≤ 100) (w : World) : Calls Tryz.prog 83 #[.string (ba x)] w fun e w' => e = .returned (.string (ba (raise x))) ∧ Below w.heap.size w w' := by
  have := raise_i (ba x) w (by rw [ba_size]; omega)
  rwa [toList_ba] at this
theorem calm_w (x : List UInt8) (hl : x.length ≤ 100) (w : World) : Calls Tryz.prog 84 #[.string (ba x)] w fun e w' => e = .returned (.string (ba (calm x))) ∧ Below w.heap.size w w' := by
  have := calm_i (ba x) w (by rw [ba_size]; omega)
  rwa [toList_ba] at this
set_option maxHeartbeats 4000000 in
theorem letters_i (x : List UInt8) (k : Nat) (hk : k ≤ 3) (hl : x.length ≤ 100) (w : World) :
    Calls Tryz.prog 59 #[.string (ba x), .int .i64 k] w fun e w' => e = .returned (.string (ba (chg k x))) ∧ Below w.heap.size w w' := by
  have HRa := Lib.hid (raise_w x hl)
  have HCa := Lib.hid (calm_w x hl)
  have HRc := Lib.hid (raise_w (calm x) (by rw [calm_len]; exact hl))
  clear hl
  match k, hk with
  | 0, _ =>
    go_enter Tryz.func59, Tryz.ntmps59
    go_wp2_with fail
    go_ret
    exact ⟨rfl, Below.refl _ _⟩
  | 1, _ =>
    go_enter Tryz.func59, Tryz.ntmps59
    go_wp2_with fail
    refine (HRa.out _).mono ?_
    rintro e w1 ⟨rfl, b1⟩
    go_wp2_with fail
    go_ret
    exact ⟨rfl, b1⟩
  | 2, _ =>
    go_enter Tryz.func59, Tryz.ntmps59
    go_wp2_with fail
    refine (HCa.out _).mono ?_
    rintro e w1 ⟨rfl, b1⟩
    go_wp2_with fail
    go_ret
    exact ⟨rfl, b1⟩
  | 3, _ =>
    go_enter Tryz.func59, Tryz.ntmps59
    go_wp2_with fail
    refine (HCa.out _).mono ?_
    rintro e w1 ⟨rfl, b1⟩
    go_wp2_with fail
    refine (HRc.out _).mono ?_
    rintro e w2 ⟨rfl, b2⟩
    go_wp2_with fail
    go_ret
    exact ⟨rfl, b1.trans (b2.mono b1.size)⟩
end Go.Proofs.YtobaapabkckblaaGreatDoor.Tc
