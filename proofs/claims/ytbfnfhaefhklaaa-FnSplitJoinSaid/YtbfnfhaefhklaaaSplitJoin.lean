/-
  Proved: for every code of bytes the law FnSplitJoin returns true; the argument reads as before. No further condition.
-/
import Derived.Test.YtbfnfhaefhklaaaRows
import Derived.Test.YtbfnfhaefhklaaaStrs
import Derived.Test.YtbfnfhaefhklaaaHelp
import Derived.Test.YtbfnfhaefhklaaaJoin
import Derived.Test.YtbfnfhaefhklaaaSplit
import Derived.Test.YtbfnfhaefhklaaaIter
import Derived.Test.YtbfnfhaefhklaaaDraw1
import Derived.WalkKit
import Derived.ProofKit
import Derived.OpenShut
import Derived.ShutString
import Derived.ChangeOld
import Derived.Below
import Derived.Deep.RegionWith
namespace Go.Proofs.Ytbfnfhaefhklaaa.fnSplitJoin
open Go.ChangeShapes Go.WideShapes Go.ChangeAt Go.RowKit
open Strs Help Join Cur Draw1
set_option linter.unusedVariables false

theorem own : ownKnob Try.prog.godebug = none := by kernel_rfl
theorem laidOut : laidOutB Try.prog = true := by kernel_rfl

/-- is a less than b -/
def ltB (a b : ByteArray) : Bool := Op.bytesLess a.toList b.toList
theorem implLess (a b : ByteArray) (w : World) : Calls Try.prog 15 #[.string a, .string b] w fun e w' => e = .returned (.bool (ltB a b)) ∧ w = w' := by
  go_enter Try.func15, Try.ntmps15
  go_wp2
  go_ret
  exact ⟨rfl, rfl⟩
theorem specLess (a b : ByteArray) (w : World) : Calls Try.prog 16 #[.string a, .string b] w fun e w' => e = .returned (.bool (ltB a b)) ∧ w = w' := by
  go_enter Try.func16, Try.ntmps16
  go_wp2
  go_ret
  exact ⟨rfl, rfl⟩
theorem ltB_asymm {a b : ByteArray} (h : ltB a b = true) : ltB b a = false := by
  have key : ∀ x y : List UInt8, Op.bytesLess x y = true → Op.bytesLess y x = false := by
    intro x
    induction x with
    | nil => intro y _; cases y <;> simp [Op.bytesLess]
    | cons a x ih =>
      intro y hy
      cases y with
      | nil => simp [Op.bytesLess] at hy
      | cons b y =>
        simp only [Op.bytesLess, Bool.or_eq_true, decide_eq_true_eq, Bool.and_eq_true, beq_iff_eq] at hy
        simp only [Op.bytesLess, Bool.or_eq_false_iff, decide_eq_false_iff_not, Bool.and_eq_false_imp, beq_iff_eq]
        rcases hy with hy | ⟨rfl, hy⟩
        · refine ⟨fun h' => ?_, fun e => ?_⟩
          · rw [UInt8.lt_iff_toNat_lt] at hy h'; omega
          · subst e; rw [UInt8.lt_iff_toNat_lt] at hy; omega
        · exact ⟨fun h' => by rw [UInt8.lt_iff_toNat_lt] at h'; omega, fun _ => ih y hy⟩
  exact key _ _ h

theorem vBig_any (A : Option Addr) (n c : Nat) (w : World) (r : Bool) (hr : decide (65536 < (n : Int)) = r) : Calls Try.prog 8 #[.slice A n c] w fun e w' => e = .returned (.bool r) ∧ w = w' := by
  subst hr
  go_enter Try.func8, Try.ntmps8
  go_wp2
  go_ret
  exact ⟨rfl, rfl⟩

theorem lens_small {xs : List ByteArray} {m : Nat} (h : ∀ x ∈ xs, x.size ≤ 4096) (hl : xs.length ≤ m) : lens xs ≤ 4096 * m := by
  induction xs generalizing m with
  | nil => simp [lens]
  | cons x r ih =>
    obtain ⟨k, rfl⟩ : ∃ k, m = k + 1 := ⟨m - 1, by simp at hl; omega⟩
    have h1 := ih (m := k) (fun y hy => h y (List.mem_cons_of_mem _ hy)) (by simpa using hl)
    have h2 := h x (List.mem_cons_self ..)
    have e : lens (x :: r) = x.size + lens r := by simp [lens]
    omega

/-- what SplitString left: a slice that owns the list -/
def Splits (s sep : ByteArray) (l : List ByteArray) (ok : Bool) : Prop :=
  ∀ w, Calls Try.prog 10 #[.string s, .string sep] w fun e W' => ∃ v, e = .returned (.tuple #[v, .bool ok]) ∧ W'.ownsRow w.heap.size 9 1 v l.length (l.map Value.string) ∧ Below w.heap.size w W'
theorem splits_yes (s sep : ByteArray) (hs : s.size ≤ 4000) (b : UInt8) (h : sep = ⟨#[b]⟩) : Splits s sep ((Pl.split b s.data.toList).map Pl.ba) true := by
  subst h
  intro w
  refine (Iter.split_any s ⟨#[b]⟩ w hs (show 0 < 1 by omega) rfl).mono ?_
  rintro e w' ⟨v, rfl, ho, hb⟩
  replace ho : w'.ownsRow w.heap.size 9 1 v (Pl.split b s.data.toList).length (Split.cs (Pl.split b s.data.toList)) := ho
  exact ⟨v, rfl, by simpa [Split.cs, Function.comp_def] using ho, hb⟩
theorem splits_no (s sep : ByteArray) (h : sep.size ≠ 1) : Splits s sep [] false := by
  intro w
  refine (Iter.split_no s sep w (.inr h)).mono ?_
  rintro e w' ⟨rfl, rfl⟩
  exact ⟨_, rfl, World.ownsRow_lit w #[] 0 (Nat.le_refl _) (Nat.zero_le _) rfl, (Below.refl _ _).alloc (Nat.le_refl _) _⟩

/-- the first part of the law, up to the two lists -/
structure Mid (w w' : World) (v : Value) (l : List ByteArray) : Prop where
  row : w'.ownsRow w.heap.size 9 1 v l.length (l.map Value.string)
  below : Below w.heap.size w w'
theorem Mid.go {w w1 w2 : World} {v : Value} {l : List ByteArray} (h : Mid w w1 v l) (hb : Below w1.heap.size w1 w2) : Mid w w2 v l :=
  ⟨own_below h.row hb, h.below.trans (hb.mono h.below.size)⟩

theorem join_back (s sep : ByteArray) (b : UInt8) (hs : s.size ≤ 4000) (h : sep = ⟨#[b]⟩) : both sep ((Pl.split b s.data.toList).map Pl.ba) = .tuple #[.string s, .bool true] := by
  rw [both_yes h, jV_yes (JoinPl.split_ok b _ (by rw [Pl.len_size]; exact hs)), JoinPl.jk_split]

set_option maxHeartbeats 2000000 in
theorem walk (A : Option Addr) (n c : Nat) (w : World) (hr : RdB w A n) (ha : Apart A n w.heap.size) :
    Calls Try.prog 3 #[.slice A n c] w fun e w' => e = .returned (.bool true) ∧ Below w.heap.size w w' := by
  have HR := Lib.hid hr
  have HA := Lib.hid ha
  clear hr ha
  by_cases hbig : 65536 < n
  · go_enter Try.func3, Try.ntmps3
    go_wp2_with fail
    refine (vBig_any A n c _ true (by simp; omega)).mono ?_
    rintro e w' ⟨rfl, rfl⟩
    go_wp2_with fail
    go_ret
    exact ⟨rfl, Below.refl _ _⟩
  · go_enter Try.func3, Try.ntmps3
    go_wp2_with fail
    refine (vBig_any A n c _ false (by simp; omega)).mono ?_
    rintro e w' ⟨rfl, rfl⟩
    go_wp2_with fail
    refine (drawSplit_any A n c _ (by omega) HR.out HA.out).mono ?_
    rintro e w1 ⟨s, sep, hs, hsep, rfl, b1⟩
    obtain ⟨l, ok, HS, hcase⟩ : ∃ l ok, Hid (Splits s sep l ok) ∧ Hid ((sep.size ≠ 1 ∧ l = [] ∧ ok = false) ∨ ∃ b, sep = ⟨#[b]⟩ ∧ l = (Pl.split b s.data.toList).map Pl.ba ∧ ok = true) := by
      by_cases h1 : sep.size = 1
      · obtain ⟨b, hb⟩ := one_byte h1
        exact ⟨_, _, Lib.hid (splits_yes s sep (by omega) b hb), Lib.hid (.inr ⟨b, hb, rfl, rfl⟩)⟩
      · exact ⟨_, _, Lib.hid (splits_no s sep h1), Lib.hid (.inl ⟨h1, rfl, rfl⟩)⟩
    go_wp2_with fail
    refine (HS.out _).mono ?_
    rintro e w2 ⟨v, rfl, ho2, b2⟩
    have M2 : Hid (Mid w w2 v l) := Lib.hid ⟨own_base ho2 b1.size, b1.trans (b2.mono b1.size)⟩
    clear ho2 b2
    have HR2 := Lib.hid (rdb_below HR.out HA.out M2.out.below)
    have HA2 : Hid (Apart A n w2.heap.size) := Lib.hid (fun hp a h => Nat.lt_of_lt_of_le (HA.out hp a h) M2.out.below.size)
    go_wp2_with fail
    refine (drawJoin_any A n c _ (by omega) HR2.out HA2.out).mono ?_
    rintro e w3 ⟨vk, xs, mk, hxs, hxl, hmk, rfl, hok, b3⟩
    have M3 := Lib.hid (M2.out.go b3)
    have hlim : xs.length + lens xs ≤ 1048576 := by have := lens_small hxs hxl; omega
    have OK3 := Lib.hid hok
    have HXS := Lib.hid hxs
    clear hok hxs M2 HR2 HA2 b3
    obtain ⟨Ak, ck, rfl, _, rk, hAk⟩ := own_rds OK3.out
    have hcap := own_cap OK3.out
    have RK := Lib.hid rk
    have HAk := Lib.hid hAk
    clear rk hAk
    obtain ⟨t, r, hbt⟩ := both_form mk xs
    have HB := Lib.hid hbt
    clear hbt
    go_wp2_with fail
    refine (implJoin Ak ck xs.length xs mk _ RK.out HAk.out rfl hcap hlim).mono ?_
    rintro e w4 ⟨rfl, b4⟩
    rw [HB.out]
    have M4 := Lib.hid (M3.out.go b4)
    have OK4 := Lib.hid (own_below OK3.out b4)
    have RK4 : Hid (RdS w4 Ak xs) := by
      obtain ⟨A', c', e', _, r', _⟩ := own_rds OK4.out
      simp at e'
      obtain ⟨rfl, _⟩ := e'
      exact Lib.hid r'
    clear b4 M3 OK3 RK HAk OK4
    go_wp2_with fail
    refine (specJoin Ak ck xs.length xs mk _ RK4.out rfl hlim).mono ?_
    rintro e w5 ⟨rfl, b5⟩
    rw [HB.out]
    have M5 := Lib.hid (M4.out.go b5)
    clear b5 M4 RK4
    have HR5 := Lib.hid (rdb_below HR.out HA.out M5.out.below)
    have HA5 : Hid (Apart A n w5.heap.size) := Lib.hid (fun hp a h => Nat.lt_of_lt_of_le (HA.out hp a h) M5.out.below.size)
    go_wp2_with fail
    refine (drawLess_any A n c _ (by omega) HR5.out HA5.out).mono ?_
    rintro e w6 ⟨a, b, _, _, rfl, b6⟩
    have M6 := Lib.hid (M5.out.go b6)
    clear b6 M5 HR5 HA5
    have hless : Hid (∀ u : World, Calls Try.prog 15 #[.string a, .string b] u fun e w' => e = .returned (.bool (ltB a b)) ∧ u = w') := Lib.hid (fun u => implLess a b u)
    rcases hcase.out with ⟨h1, rfl, rfl⟩ | ⟨bb, hsb, rfl, rfl⟩
    · have hn1 : ((sep.size : Int) != 1) = true := by rw [bne_iff_ne]; omega
      clear hcase h1
      obtain ⟨Av, cv, rfl, _, _, _⟩ := own_rds M6.out.row
      cases hl : ltB a b with
      | true =>
        have HL1 := Lib.hid hl
        have HL2 := Lib.hid (ltB_asymm hl)
        clear hl
        go_wp2_with fail
        refine (implLess a b _).mono ?_
        rintro e w' ⟨rfl, rfl⟩
        rw [HL1.out]
        go_wp2_with fail
        refine (specLess a b _).mono ?_
        rintro e w' ⟨rfl, rfl⟩
        rw [HL1.out]
        go_wp2_with fail
        refine (implLess a b _).mono ?_
        rintro e w' ⟨rfl, rfl⟩
        rw [HL1.out]
        go_wp2_with fail
        refine (implLess b a _).mono ?_
        rintro e w' ⟨rfl, rfl⟩
        rw [HL2.out]
        go_wp2_with fail
        go_ret
        exact ⟨rfl, M6.out.below⟩
      | false =>
        have HL1 := Lib.hid hl
        clear hl
        go_wp2_with (first
          | (go_at_call 15; refine (implLess a b _).mono ?_; rintro e w' ⟨rfl, rfl⟩; rw [HL1.out])
          | (go_at_call 16; refine (specLess a b _).mono ?_; rintro e w' ⟨rfl, rfl⟩; rw [HL1.out]))
        go_ret
        exact ⟨rfl, M6.out.below⟩
    · have hsz : sep.size = 1 := by rw [hsb]; rfl
      have hn1 : ((sep.size : Int) != 1) = false := by rw [hsz]; rfl
      have HSB := Lib.hid hsb
      clear hcase hsb hsz
      have hown := own_cap (A := none) (n := 0) (c := 0) (World.ownsRow_nil w 0 0 1)
      clear hown
      obtain ⟨Av, cv, rfl, hlv, rv, hAv⟩ := own_rds M6.out.row
      have hcapv := own_cap M6.out.row
      have HJ := Lib.hid (implJoin Av cv _ _ sep w6 rv hAv rfl hcapv (by
        have h1 := JoinPl.split_lens bb s.data.toList
        have h2 := JoinPl.split_pos bb s.data.toList
        rw [Pl.len_size] at h1
        omega))
      have HBk := Lib.hid (join_back s sep bb (by omega) HSB.out)
      clear hlv rv hAv hcapv
      generalize ((Pl.split bb s.data.toList).map Pl.ba).length = nl at *
      cases hl : ltB a b with
      | true =>
        have HL1 := Lib.hid hl
        have HL2 := Lib.hid (ltB_asymm hl)
        clear hl
        go_wp2_with fail
        refine (implLess a b _).mono ?_
        rintro e w' ⟨rfl, rfl⟩
        rw [HL1.out]
        go_wp2_with fail
        refine (specLess a b _).mono ?_
        rintro e w' ⟨rfl, rfl⟩
        rw [HL1.out]
        go_wp2_with fail
        refine (implLess a b _).mono ?_
        rintro e w' ⟨rfl, rfl⟩
        rw [HL1.out]
        go_wp2_with fail
        refine (implLess b a _).mono ?_
        rintro e w' ⟨rfl, rfl⟩
        rw [HL2.out]
        go_wp2_with fail
        refine HJ.out.mono ?_
        rintro e w7 ⟨rfl, b7⟩
        rw [HBk.out]
        go_wp2_with fail
        go_ret
        exact ⟨rfl, M6.out.below.trans (b7.mono M6.out.below.size)⟩
      | false =>
        have HL1 := Lib.hid hl
        clear hl
        go_wp2_with fail
        refine (implLess a b _).mono ?_
        rintro e w' ⟨rfl, rfl⟩
        rw [HL1.out]
        go_wp2_with fail
        refine (specLess a b _).mono ?_
        rintro e w' ⟨rfl, rfl⟩
        rw [HL1.out]
        go_wp2_with fail
        refine (implLess a b _).mono ?_
        rintro e w' ⟨rfl, rfl⟩
        rw [HL1.out]
        go_wp2_with fail
        refine HJ.out.mono ?_
        rintro e w7 ⟨rfl, b7⟩
        rw [HBk.out]
        go_wp2_with fail
        go_ret
        exact ⟨rfl, M6.out.below.trans (b7.mono M6.out.below.size)⟩

set_option maxRecDepth 100000 in
theorem lifted (os : Os) (started : os.Started) (H : Type) (enc : TypeId × Value → H) :
    ReturnsInHanded {} Try.checked os 3 .any (Rows.fnSplitJoinSpec.pre6 enc Try.prog Try.f3 Rows.fnSplitJoinRow.domain false) (Rows.fnSplitJoinSpec.post enc Try.prog Try.f3 false true false false) := by
  refine returnsInHanded_of_change (C := Try.checked) own started (by kernel_rfl) Try.func3
    (ChangeSpec.witness6 (enc := enc) (C := Try.checked) false ⟨#[], #[.slice none 0 0], []⟩ 8 (by kernel_rfl) (by kernel_rfl) (by kernel_rfl) (by kernel_rfl)) ?_
  intro W base args ds gs before hval0 hW hcnd _
  have hval : ∀ (j : Nat) t v, Try.f3.params[j]? = some t → args[j]? = some v → Value.okWide Try.prog W .any base t v := hval0
  have hW' := hW
  obtain ⟨p, q, hA0, hV, rfl, hfz, hnd⟩ := hW
  have hA : DataW.TrodAll enc Try.prog W 0 (fun _ => true) true Try.f3.params.toList args.toList ds p := hA0
  rw [Try.params3] at hA hval
  obtain ⟨v0, vs0, d0, ds0, p0, q0, hargs, rfl, rfl, h0, r0⟩ := trodAll_cons hA
  obtain ⟨rfl, rfl, rfl⟩ := trodAll_nil r0
  obtain rfl : args = #[v0] := by cases args; simp_all
  obtain ⟨rfl, rfl⟩ := trodVars_none hV
  obtain ⟨a0, len0, cap0, rfl⟩ := okWide_slice Try.underlying22 (hval 0 22 v0 rfl rfl)
  have k0 := h0
  have lt0 : ∀ x ∈ p0, x.block < W.heap.size := by obtain ⟨m, hm⟩ := k0; exact DataW.trod_lt m _ _ _ hm
  obtain ⟨rd, ap⟩ : RdB W a0 len0 ∧ Apart a0 len0 W.heap.size := by
    obtain ⟨fuel, hf⟩ := h0
    rcases open_ints Try.underlying22 Try.underlying5 (by kernel_rfl) hf with ⟨hcs, _⟩ | ⟨x, l, c, zs, hcs, _, hl, hm, hz, _, hcell, hwz⟩
    · simp [Value.cells] at hcs
      obtain ⟨rfl, rfl, rfl⟩ := hcs
      exact ⟨fun j hj => by omega, fun hp => by omega⟩
    · simp [Value.cells] at hcs
      obtain ⟨rfl, rfl, rfl⟩ := hcs
      simp only [if_true] at hz
      refine ⟨fun j hj => ?_, fun hp a ha => ?_⟩
      · obtain ⟨b, off, rfl, hc⟩ := ints_at hcell (by omega)
        refine ⟨b, off, _, rfl, hc j (by omega), ?_⟩
        have hw := hwz (zs.getD j 0) (by rw [List.getD_eq_getElem?_getD, List.getElem?_eq_getElem (by omega)]; exact List.getElem_mem _)
        simpa [Lit.wf, IntKind.min, IntKind.max, IntKind.signed, IntKind.bits] using hw
      · cases ha
        have h0c := hcell 0 (by omega)
        rcases Nat.lt_or_ge x.block W.heap.size with h | h
        · exact h
        · exfalso
          have : W.heap[x.block]? = none := Array.getElem?_eq_none h
          simp [Addr.add, World.cell?, this] at h0c
  clear hA0 hval0
  refine (walk a0 len0 cap0 W rd ap).mono fun e W' ⟨he, bel⟩ => ?_
  subst he
  exact ⟨_, rfl, _, _, _, [], _, [], hW', trodAll_mk1 (shut_bool Try.underlying4 _), (trodAll_cons_mk (Below.trod laidOut (by kernel_rfl) (of_decide_eq_true (by kernel_rfl)) k0 bel lt0) trodAll_mk0), rfl, bel.frame _, fun h => by cases h⟩

theorem over : Rows.fnSplitJoinRow.holds Try.pinned (OpenSpec.ofChange Rows.fnSplitJoinSpec) :=
  OpenClaim.holds_of_wide 3 Try.f3 rfl rfl rfl rfl rfl rfl rfl ⟨rfl, rfl, rfl, rfl, rfl⟩ rfl rfl rfl rfl rfl (by kernel_rfl) Try.func3 (by kernel_rfl)
    (of_decide_eq_true (by kernel_rfl)) (by unfold Func.isWrapper; first | (rw [if_pos (by decide +kernel)]; kernel_rfl) | (rw [if_neg (by decide +kernel)]; exact ⟨rfl, rfl⟩))
    (fun os started H enc _ => lifted os started H enc)

theorem proved : Rows.FnSplitJoinSaid :=
  over
#print axioms proved
end Go.Proofs.Ytbfnfhaefhklaaa.fnSplitJoin
