/-
  Libraries: validity, plain; contracts of LessString and of the laws' helpers szLibrary, eqLibrary, toLibrary.
-/
import Derived.Test.YteccmlpibbchbaaGreatDoorGEs
import Derived.Test.YteccmlpibbchbaaGreatDoorVe
import Derived.Test.YteccmlpibbchbaaGreatDoorLbK
namespace Go.Proofs.YteccmlpibbchbaaGreatDoor.Lbs
open Go.RowKit Pl Strs Help Name Stands SplitPl NmPl Word Part NGood Nms Jn Ens
set_option linter.unusedSimpArgs false
set_option linter.unusedVariables false

theorem less_b (a b : ByteArray) (r : Bool) (w : World) (h : ltS a b = r) : Calls Tryz.prog 52 #[.string a, .string b] w fun e w' => e = .returned (.bool r) ∧ w = w' := by
  have h' : Op.bytesLess a.toList b.toList = r := h
  clear h
  cases r
  all_goals
    go_enter Tryz.func52, Tryz.ntmps52
    go_wp2
    go_ret
    exact ⟨rfl, rfl⟩

set_option maxHeartbeats 1000000 in
theorem szLib_any (A : Option Addr) (c N : Nat) (L : List En) (left : Nat) (w : World) (h : RdE w A L) (hn : L.length = N) (hm : N ≤ maxLen) (hx : ∀ x ∈ L, x.Lim) (hl : left ≤ 1048576) :
    Calls Tryz.prog 5 #[.agg #[.slice A N c], .int .i64 left] w fun e w' => e = .returned (.int .i64 (szEl left L)) ∧ Below w.heap.size w w' := by
  have HB := Lib.hid ((Below.refl _ w).alloc (Nat.le_refl _) (.cells #[.slice A N c] 24))
  have HS := Lib.hid (szEntryS_any A c N L left _ (h.below HB.out) hn hm hx hl)
  have hfit : (∃ t : Nat, szEl left L = t) ∨ szEl left L = -1 := by
    unfold szEl
    by_cases h1 : L.length + szEs L ≤ left
    · rw [if_pos h1]; exact .inl ⟨left - L.length - szEs L, by omega⟩
    · rw [if_neg h1]; exact .inr rfl
  clear h hn hx
  generalize szEl left L = z at *
  rcases hfit with ⟨t, rfl⟩ | rfl
  all_goals
    go_enter Tryz.func5, Tryz.ntmps5
    go_wp2_with fail
    refine HS.out.mono ?_
    rintro e w1 ⟨rfl, b1⟩
    go_wp2_with fail
    go_ret
    exact ⟨rfl, HB.out.trans (b1.mono HB.out.size)⟩

set_option maxHeartbeats 1000000 in
theorem eqLib_same (A B : Option Addr) (c d N : Nat) (L M : List En) (w : World) (h : RdE w A L) (h' : RdE w B M) (hn : L.length = N) (hk : L.map En.key4 = M.map En.key4) (hm : N ≤ 1048576) (hl : ∀ x ∈ L, x.Sm) :
    Calls Tryz.prog 12 #[.agg #[.slice A N c], .agg #[.slice B N d]] w fun e w' => e = .returned (.bool true) ∧ Below w.heap.size w w' := by
  have HB := Lib.hid (((Below.refl _ w).alloc (Nat.le_refl _) (.cells #[.slice A N c] 33)).alloc (by simp) (.cells #[.slice B N d] 33))
  have HS := Lib.hid (eqEntryS_same A B c d N L M _ (h.below HB.out) (h'.below HB.out) hn hk hm hl)
  clear h h' hn hk hl
  go_enter Tryz.func12, Tryz.ntmps12
  go_wp2_with fail
  refine HS.out.mono ?_
  rintro e w1 ⟨rfl, b1⟩
  go_wp2_with fail
  go_ret
  exact ⟨rfl, HB.out.trans (b1.mono HB.out.size)⟩
theorem box1 (w : World) (v : Value) (t : TypeId) : (w.alloc (.cells #[v] t)).cell? ⟨w.heap.size, 0, none⟩ = some v ∧ (w.alloc (.cells #[v] t)).frozen? ⟨w.heap.size, 0, none⟩ = false := ⟨by simp, by simp⟩
/-- a fresh list of entries at block g -/
def FrE (W : World) (g : Nat) (M : List En) : Prop := RdE W (some ⟨g, 0, none⟩) M ∧ (∀ x ∈ M, x.Fresh W g) ∧ NF W g
theorem FrE.below {W w' : World} {g : Nat} {M : List En} (h : FrE W g M) (hb : Below W.heap.size W w') : FrE w' g M := ⟨h.1.below hb, fun x hx => (h.2.1 x hx).below hb, h.2.2.below hb⟩
theorem FrE.older {W : World} {g b : Nat} {M : List En} (h : FrE W g M) (hb : b < g) (i : Nat) (v : Value) : FrE (W.setCell ⟨b, i, none⟩ v) g M := by
  have hf : ∀ x ∈ M, x.Fresh (W.setCell ⟨b, i, none⟩ v) g := fun x hx => by
    obtain ⟨g2, g3, h1, h2, h3, h4, h5, h6, h7, h8⟩ := h.2.1 x hx
    exact ⟨g2, g3, h1, h2, h3, h4, h5.older (by omega) _ _, h6.older (by omega) _ _, h7, h8⟩
  refine ⟨fun j x hx => ⟨(hf x (List.mem_of_getElem? hx)).rd, ?_⟩, hf, h.2.2.set _ _⟩
  obtain ⟨g', o', e, hg, c0, c1, c2, c3, c4, c5, c6, c7, c8, c9, c10, c11, c12, c13⟩ := (h.1 j x hx).2
  cases e
  have key : ∀ k, (W.setCell ⟨b, i, none⟩ v).cell? ⟨g, k, none⟩ = W.cell? ⟨g, k, none⟩ := fun k => World.cell?_setCell_other W _ _ _ (fun e => by cases e; exact absurd rfl (Nat.ne_of_lt hb))
  exact ⟨g, 0, rfl, by simpa [World.setCell] using hg, (key _).trans c0, (key _).trans c1, (key _).trans c2, (key _).trans c3, (key _).trans c4, (key _).trans c5, (key _).trans c6, (key _).trans c7, (key _).trans c8, (key _).trans c9, (key _).trans c10, (key _).trans c11, (key _).trans c12, (key _).trans c13⟩

set_option maxRecDepth 100000 in
set_option maxHeartbeats 2000000 in
theorem toLib_far (A : Option Addr) (c N : Nat) (L : List En) (w : World) (h : RdE w A L) (hn : L.length = N) (hm : N ≤ 1048576) (hl : ∀ x ∈ L, x.Sm) :
    Calls Tryz.prog 8 #[.agg #[.slice A N c]] w fun e w' => ∃ g M, e = .returned (.agg #[.slice (some ⟨g, 0, none⟩) N N]) ∧ w.heap.size < g ∧ FrE w' g M ∧ M.map En.key4 = L.map En.key4 ∧ (∀ x ∈ M, x.Sm) ∧ Below w.heap.size w w' := by
  have HB := Lib.hid ((((Below.refl _ w).alloc (Nat.le_refl _) (.cells #[.slice A N c] 24)).alloc (by simp) (.cells #[.slice none 0 0] 33)).alloc (by simp; omega) (.cells #[.slice none 0 0] 33))
  have HS := Lib.hid (toEntryS_far A c N L _ (h.below HB.out) hn hm hl)
  have bb : ∀ (w : World) (o : Obj), Below w.heap.size w (w.alloc o) := fun w o => (Below.refl _ w).alloc (Nat.le_refl _) o
  have s1 : (w.alloc (.cells #[.slice A N c] 24)).heap.size = w.heap.size + 1 := by simp
  have s2 : ((w.alloc (.cells #[.slice A N c] 24)).alloc (.cells #[.slice none 0 0] 33)).heap.size = w.heap.size + 1 + 1 := by simp
  have hsz : (((w.alloc (.cells #[.slice A N c] 24)).alloc (.cells #[.slice none 0 0] 33)).alloc (.cells #[.slice none 0 0] 33)).heap.size = w.heap.size + 1 + 1 + 1 := by simp
  have a1 := box1 (w.alloc (.cells #[.slice A N c] 24)) (.slice none 0 0) 33
  have a2 := box1 ((w.alloc (.cells #[.slice A N c] 24)).alloc (.cells #[.slice none 0 0] 33)) (.slice none 0 0) 33
  rw [s1] at a1
  rw [s2] at a2
  have hz1 := ((bb ((w.alloc (.cells #[.slice A N c] 24)).alloc (.cells #[.slice none 0 0] 33)) (.cells #[.slice none 0 0] 33)).cell (p := ⟨w.heap.size + 1, 0, none⟩) (by show w.heap.size + 1 < _; omega)).trans a1.1
  have hf1 := ((bb ((w.alloc (.cells #[.slice A N c] 24)).alloc (.cells #[.slice none 0 0] 33)) (.cells #[.slice none 0 0] 33)).frozen (p := ⟨w.heap.size + 1, 0, none⟩) (by show w.heap.size + 1 < _; omega)).trans a1.2
  have hz2 := a2.1
  have hf2 := a2.2
  have HZ := Lib.hid (And.intro hsz (And.intro hz1 (And.intro hz2 (And.intro hf1 hf2))))
  clear h hn hl hsz hz1 hz2 hf1 hf2 a1 a2 s1 s2 bb
  go_enter Tryz.func8, Tryz.ntmps8
  go_wp2_with fail
  generalize ((w.alloc (.cells #[.slice A N c] 24)).alloc (.cells #[.slice none 0 0] 33)).alloc (.cells #[.slice none 0 0] 33) = w0 at HB HS HZ ⊢
  refine HS.out.mono ?_
  rintro e w1 ⟨M, rfl, R1, K1, S1, F1, N1, b1⟩
  obtain ⟨hsz, hz1, hz2, hf1, hf2⟩ := HZ.out
  have d1 := (b1.cell (p := ⟨w.heap.size + 1, 0, none⟩) (by show w.heap.size + 1 < w0.heap.size; omega)).trans hz1
  have d2 := (b1.cell (p := ⟨w.heap.size + 1 + 1, 0, none⟩) (by show w.heap.size + 1 + 1 < w0.heap.size; omega)).trans hz2
  have e1 := (b1.frozen (p := ⟨w.heap.size + 1, 0, none⟩) (by show w.heap.size + 1 < w0.heap.size; omega)).trans hf1
  have e2 := (b1.frozen (p := ⟨w.heap.size + 1 + 1, 0, none⟩) (by show w.heap.size + 1 + 1 < w0.heap.size; omega)).trans hf2
  have hg1 : w.heap.size + 1 < w0.heap.size := by omega
  have hg2 : w.heap.size + 1 + 1 < w0.heap.size := by omega
  have k1 := HB.out.trans (b1.mono HB.out.size)
  have HF : Hid (FrE w1 w0.heap.size M) := Lib.hid ⟨R1, F1, N1⟩
  generalize w0.heap.size = g at *
  have HF2 := Lib.hid ((HF.out.older hg2 0 (.slice (some ⟨g, 0, none⟩) N N)).older hg1 0 (.slice (some ⟨g, 0, none⟩) N N))
  have k2 : Below w.heap.size w ((w1.setCell ⟨w.heap.size + 1 + 1, 0, none⟩ (.slice (some ⟨g, 0, none⟩) N N)).setCell ⟨w.heap.size + 1, 0, none⟩ (.slice (some ⟨g, 0, none⟩) N N)) := (k1.setCell (p := ⟨w.heap.size + 1 + 1, 0, none⟩) (by show w.heap.size ≤ w.heap.size + 1 + 1; omega) _).setCell (p := ⟨w.heap.size + 1, 0, none⟩) (by show w.heap.size ≤ w.heap.size + 1; omega) _
  have HK1 := Lib.hid K1
  have HS1 := Lib.hid S1
  clear R1 F1 N1 b1 HS HZ hsz hz1 hz2 hf1 hf2 k1 K1 S1
  go_wp2_with fail
  refine bodyPost_ret (v := .agg #[.slice (some ⟨g, 0, none⟩) N N]) (by simp [results, Tryz.results8, go_sem, *]) rfl ⟨g, M, rfl, by omega, HF2.out, HK1.out, HS1.out, k2⟩
end Go.Proofs.YteccmlpibbchbaaGreatDoor.Lbs
