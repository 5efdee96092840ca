/-
  Contracts of the laws' helpers over names: szName, toName, eqName.
-/
import Derived.Test.YteccmlpibbchbaaGreatDoorRows
import Derived.Test.YteccmlpibbchbaaGreatDoorPlain
import Derived.Test.YteccmlpibbchbaaGreatDoorStrs
import Derived.Test.YteccmlpibbchbaaGreatDoorHelp
import Derived.WalkKit
import Derived.Lib.Hide
import Derived.Below
import Derived.Deep.Onto
namespace Go.Proofs.YteccmlpibbchbaaGreatDoor.Name
open Go.RowKit Pl Strs Help

/-- a name as a value -/
@[reducible] def nmV (v : Value) (p f s : ByteArray) : Value := .agg #[v, .string p, .string f, .string s]

/-- what szName answers -/
def szN (left : Nat) (xs : List ByteArray) (p f s : ByteArray) : Int := if xs.length + lens xs + p.size + f.size + s.size ≤ left then (left : Int) - xs.length - lens xs - p.size - f.size - s.size else -1

theorem rds_below {w w' : World} {A : Option Addr} {xs : List ByteArray} (h : RdS w A xs) (hA : 0 < xs.length → ∀ a, A = some a → a.block < w.heap.size) (hb : Below w.heap.size w w') : RdS w' A xs :=
  h.of fun hp a ha => hb.block _ (hA hp a ha)

set_option maxHeartbeats 1000000 in
theorem szName_any (A : Option Addr) (c n : Nat) (xs : List ByteArray) (p f s : ByteArray) (left : Nat) (w : World) (h : RdS w A xs) (hA : 0 < xs.length → ∀ a, A = some a → a.block < w.heap.size) (hn : xs.length = n) (hm : n ≤ maxLen) (hx : ∀ x ∈ xs, x.size ≤ maxLen) (hp : p.size ≤ maxLen) (hf : f.size ≤ maxLen) (hs : s.size ≤ maxLen) (hl : left ≤ 1048576) :
    Calls Tryz.prog 86 #[nmV (.slice A n c) p f s, .int .i64 left] w fun e w' => e = .returned (.int .i64 (szN left xs p f s)) ∧ Below w.heap.size w w' := by
  have HB := Lib.hid ((Below.refl _ w).alloc (Nat.le_refl _) (.cells #[.slice A n c, .string p, .string f, .string s] 116))
  have HS := Lib.hid (szStringS_any A c n xs left _ (rds_below h hA HB.out) hn hm hx hl)
  have HE := Lib.hid (show szN left xs p f s = if xs.length + lens xs + p.size + f.size + s.size ≤ left then (left : Int) - xs.length - lens xs - p.size - f.size - s.size else -1 from rfl)
  have HR := Lib.hid (show szR left xs = if xs.length + lens xs ≤ left then (left : Int) - xs.length - lens xs else -1 from rfl)
  clear h hA hx
  rw [hn] at HE HR
  clear hn
  unfold maxLen at hm hp hf hs
  generalize lens xs = t at *
  generalize szN left xs p f s = z at *
  generalize szR left xs = y at *
  by_cases h0 : n + t ≤ left
  · have e0 : y = (left : Int) - n - t := by rw [HR.out, if_pos h0]
    subst e0
    by_cases h1 : n + t + p.size ≤ left
    · by_cases h2 : n + t + p.size + f.size ≤ left
      · by_cases h3 : n + t + p.size + f.size + s.size ≤ left
        · have e1 : z = (left : Int) - n - t - p.size - f.size - s.size := by rw [HE.out, if_pos h3]
          subst e1
          go_enter Tryz.func86, Tryz.ntmps86
          go_wp2_with fail
          refine HS.out.mono ?_
          rintro e w' ⟨rfl, rfl⟩
          go_wp2_with fail
          go_ret
          exact ⟨rfl, HB.out⟩
        · have e1 : z = -1 := by rw [HE.out, if_neg h3]
          subst e1
          go_enter Tryz.func86, Tryz.ntmps86
          go_wp2_with fail
          refine HS.out.mono ?_
          rintro e w' ⟨rfl, rfl⟩
          go_wp2_with fail
          go_ret
          exact ⟨rfl, HB.out⟩
      · have e1 : z = -1 := by rw [HE.out, if_neg (by omega)]
        subst e1
        go_enter Tryz.func86, Tryz.ntmps86
        go_wp2_with fail
        refine HS.out.mono ?_
        rintro e w' ⟨rfl, rfl⟩
        go_wp2_with fail
        go_ret
        exact ⟨rfl, HB.out⟩
    · have e1 : z = -1 := by rw [HE.out, if_neg (by omega)]
      subst e1
      go_enter Tryz.func86, Tryz.ntmps86
      go_wp2_with fail
      refine HS.out.mono ?_
      rintro e w' ⟨rfl, rfl⟩
      go_wp2_with fail
      go_ret
      exact ⟨rfl, HB.out⟩
  · have e0 : y = -1 := by rw [HR.out, if_neg h0]
    subst e0
    have e1 : z = -1 := by rw [HE.out, if_neg (by omega)]
    subst e1
    go_enter Tryz.func86, Tryz.ntmps86
    go_wp2_with fail
    refine HS.out.mono ?_
    rintro e w' ⟨rfl, rfl⟩
    go_wp2_with fail
    go_ret
    exact ⟨rfl, HB.out⟩

theorem own_set {w : World} {base : Nat} {e : TypeId} {size : Nat} {v : Value} {n : Nat} {xs : List Value} (h : w.ownsRow base e size v n xs) {a : Addr} (ha : a.block < base) (u : Value) : (w.setCell a u).ownsRow base e size v n xs := by
  refine h.kept (row := some a.block) ⟨rfl, rfl, rfl, by simp [World.setCell], fun k _ hk => Below.heap_setCell _ _ _ k (fun e => hk (by rw [e]))⟩ (.inr fun e => ?_)
  have := (h.lt a.block e).1
  omega
theorem bcell {W w1 : World} (hb : Below W.heap.size W w1) : (∀ b o, b < W.heap.size → w1.cell? ⟨b, o, none⟩ = W.cell? ⟨b, o, none⟩) ∧ (∀ b o, b < W.heap.size → w1.frozen? ⟨b, o, none⟩ = W.frozen? ⟨b, o, none⟩) :=
  ⟨fun b o h => hb.cell (p := ⟨b, o, none⟩) h, fun b o h => hb.frozen (p := ⟨b, o, none⟩) h⟩

set_option maxHeartbeats 1000000 in
theorem toName_any (A : Option Addr) (c n : Nat) (xs : List ByteArray) (p f s : ByteArray) (w : World) (h : RdS w A xs) (hA : 0 < n → ∀ a, A = some a → a.block < w.heap.size) (hn : xs.length = n) (hm : n ≤ 1048576) :
    Calls Tryz.prog 92 #[nmV (.slice A n c) p f s] w fun e w' => ∃ A' c', e = .returned (nmV (.slice A' n c') p f s) ∧ w'.ownsRow w.heap.size 9 1 (.slice A' n c') n (xs.map Value.string) ∧ Below w.heap.size w w' := by
  have H := Lib.hid h
  have HA := Lib.hid hA
  have HN := Lib.hid hn
  clear h hA hn
  go_enter Tryz.func92, Tryz.ntmps92
  go_wp2_with fail
  have hb0 : Below w.heap.size w (((w.alloc (.cells #[.slice A n c, .string p, .string f, .string s] 116)).alloc (.cells #[.slice none 0 0, .string ByteArray.empty, .string ByteArray.empty, .string ByteArray.empty] 111)).alloc (.cells #[.slice none 0 0, .string ByteArray.empty, .string ByteArray.empty, .string ByteArray.empty] 111)) :=
    (((Below.refl _ w).alloc (Nat.le_refl _) _).alloc (by simp) _).alloc (by simp; omega) _
  refine (toStringS_any A c n xs _ (rds_below H.out (fun hp => HA.out (by rw [← HN.out]; exact hp)) hb0) (fun hp a ha => Nat.lt_of_lt_of_le (HA.out hp a ha) hb0.size) HN.out hm).mono ?_
  rintro e w1 ⟨v, rfl, o1, b1⟩
  have O1 := Lib.hid o1
  obtain ⟨A1, c1, rfl, _, _, _⟩ := own_rds o1
  obtain ⟨hc, hf⟩ := bcell b1
  have hz := b1.size
  simp at hz
  clear o1
  go_wp2_with fail
  refine bodyPost_ret (v := nmV (.slice A1 n c1) p f s) (by simp [results, Tryz.results92, go_sem, hc]) rfl ⟨A1, c1, rfl, ?_, ?_⟩
  · refine World.ownsRow.mono (base := w.heap.size + 3) ?_ (by omega)
    have O2 := World.ownsRow.mono O1.out (base' := w.heap.size + 3) (by simp)
    iterate 8 (refine own_set ?_ (by simp) _)
    exact O2
  · have B1 := hb0.trans (b1.mono (by simp; omega))
    iterate 8 (refine Below.setCell ?_ (by simp <;> omega) _)
    exact B1

set_option maxHeartbeats 1000000 in
/-- two names of equal parts -/
theorem eqName_same (A1 A2 : Option Addr) (c1 c2 n : Nat) (xs : List ByteArray) (p f s : ByteArray) (w : World) (h1 : RdS w A1 xs) (hA1 : 0 < n → ∀ a, A1 = some a → a.block < w.heap.size) (h2 : RdS w A2 xs) (hA2 : 0 < n → ∀ a, A2 = some a → a.block < w.heap.size) (hn : xs.length = n) (hl : n ≤ 2097152) :
    Calls Tryz.prog 107 #[nmV (.slice A1 n c1) p f s, nmV (.slice A2 n c2) p f s] w fun e w' => e = .returned (.bool true) ∧ Below w.heap.size w w' := by
  have hb0 : Below w.heap.size w ((w.alloc (.cells #[.slice A1 n c1, .string p, .string f, .string s] 111)).alloc (.cells #[.slice A2 n c2, .string p, .string f, .string s] 111)) :=
    ((Below.refl _ w).alloc (Nat.le_refl _) _).alloc (by simp) _
  have HB := Lib.hid hb0
  subst hn
  have HS := Lib.hid (eqStringS_same A1 A2 c1 c2 xs _ (rds_below h1 hA1 hb0) (rds_below h2 hA2 hb0) hl)
  clear h1 h2 hA1 hA2 hb0
  generalize xs.length = n at *
  go_enter Tryz.func107, Tryz.ntmps107
  go_wp2_with fail
  refine HS.out.mono ?_
  rintro e w' ⟨rfl, q, rfl⟩
  go_wp2_with fail
  go_ret
  have b := HB.out
  exact ⟨rfl, b.os, b.tape, b.output, b.size, b.block⟩

/-- block b holds a name's four cells -/
def C4 (W : World) (b : Nat) (v : Value) (p f s : ByteArray) : Prop := b < W.heap.size ∧ W.cell? ⟨b, 0, none⟩ = some v ∧ W.cell? ⟨b, 1, none⟩ = some (.string p) ∧ W.cell? ⟨b, 2, none⟩ = some (.string f) ∧ W.cell? ⟨b, 3, none⟩ = some (.string s)
theorem C4.new (w : World) (v : Value) (p f s : ByteArray) (t : TypeId) : C4 (w.alloc (.cells #[v, .string p, .string f, .string s] t)) w.heap.size v p f s :=
  ⟨by simp, by simp, by simp, by simp, by simp⟩
theorem C4.below {W w' : World} {b : Nat} {v : Value} {p f s : ByteArray} (h : C4 W b v p f s) (hb : Below W.heap.size W w') : C4 w' b v p f s := by
  obtain ⟨h0, h1, h2, h3, h4⟩ := h
  exact ⟨Nat.lt_of_lt_of_le h0 hb.size, (hb.cell (p := ⟨b, 0, none⟩) h0).trans h1, (hb.cell (p := ⟨b, 1, none⟩) h0).trans h2, (hb.cell (p := ⟨b, 2, none⟩) h0).trans h3, (hb.cell (p := ⟨b, 3, none⟩) h0).trans h4⟩
/-- nothing that lies in W has changed -/
def Kept (W w' : World) : Prop := Below W.heap.size W w'
theorem Kept.drew (W : World) : Kept W W.drew := (Below.refl _ _).drew
theorem Kept.next {W w1 w2 : World} (h : Kept W w1) (h2 : Below w1.heap.size w1 w2) : Kept W w2 := Below.trans h (h2.mono (Below.size h))
/-- A is what a name reads its Given words of, in w -/
def Rdn (w : World) (A : Option Addr) (n : Nat) (xs : List ByteArray) : Prop := RdS w A xs ∧ (0 < n → ∀ a, A = some a → a.block < w.heap.size) ∧ xs.length = n
theorem Rdn.below {w w' : World} {A : Option Addr} {n : Nat} {xs : List ByteArray} (h : Rdn w A n xs) (hb : Below w.heap.size w w') : Rdn w' A n xs :=
  ⟨rds_below h.1 (fun hp => h.2.1 (by rw [← h.2.2]; exact hp)) hb, fun hp a ha => Nat.lt_of_lt_of_le (h.2.1 hp a ha) hb.size, h.2.2⟩
theorem Rdn.own {w : World} {base : Nat} {e : TypeId} {A : Option Addr} {c n : Nat} {xs : List ByteArray} (h : w.ownsRow base e 1 (.slice A n c) n (xs.map Value.string)) : Rdn w A n xs := by
  obtain ⟨A', c', h2, hn, r, hA⟩ := own_rds h
  cases h2
  exact ⟨r, fun _ => hA, hn⟩
theorem mem_lens {xs : List ByteArray} {x : ByteArray} (h : x ∈ xs) : x.size ≤ lens xs := by
  unfold lens
  induction xs with
  | nil => cases h
  | cons y r ih =>
    rcases List.mem_cons.1 h with rfl | h
    · simp
    · have := ih h; simp at this ⊢; omega
end Go.Proofs.YteccmlpibbchbaaGreatDoor.Name
