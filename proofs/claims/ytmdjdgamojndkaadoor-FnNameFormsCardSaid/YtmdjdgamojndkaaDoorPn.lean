/-
  Contract of ParseInverse of the program.
-/
import Derived.Test.YtmdjdgamojndkaaDoorPiC
import Derived.Test.YtmdjdgamojndkaaDoorIter
import Derived.Test.YtmdjdgamojndkaaDoorForms4i
import Derived.Test.YtmdjdgamojndkaaDoorShelf
namespace Go.Proofs.YtmdjdgamojndkaaDoor.Pi
open Go.RowKit Pl Strs Help Name Stands SplitPl NmPl Word Part NGood Forms
set_option linter.unusedSimpArgs false
set_option linter.unusedVariables false

/-- the library's variable MaxLen holds some integer -/
def ML (w : World) : Prop := ∃ m, w.cell? ⟨0, 0, none⟩ = some (.int .i64 m)
theorem lt_of_cellM {w : World} {b o : Nat} {v : Value} (h : w.cell? ⟨b, o, none⟩ = some v) : b < w.heap.size := by
  rcases Nat.lt_or_ge b w.heap.size with h' | h'
  · exact h'
  · exfalso
    have : w.heap[b]? = none := Array.getElem?_eq_none h'
    simp [World.cell?, this] at h
theorem ML.below {w w' : World} (h : ML w) (hb : Below w.heap.size w w') : ML w' := by
  obtain ⟨m, hm⟩ := h
  exact ⟨m, (hb.cell (p := ⟨_, 0, none⟩) (lt_of_cellM hm)).trans hm⟩
theorem ML.drewN {w : World} (h : ML w) (q : Nat) : ML (w.drewN q) := h
theorem cutC (l : List UInt8) (x : ByteArray) (hx : x = ba l) (w : World) (hm : ML w) (hs : l.length ≤ 1048576) :
    Calls Tryd.prog 17 #[.string x, .string ⟨#[44, 32]⟩] w fun e w' => e = .returned (.tuple #[.string (ba (Lib.cut l [44, 32]).1), .string (ba (Lib.cut l [44, 32]).2.1), .bool (Lib.cut l [44, 32]).2.2]) ∧ ∃ n, w' = w.drewN n := by
  subst hx
  obtain ⟨m, hm⟩ := hm
  have h := Tryd.strings_Cut (ba l) ⟨#[44, 32]⟩ m w (by rw [ba_size]; omega) hm
  rw [toList_ba] at h
  exact h
theorem lastC (l : List UInt8) (w : World) (hs : l.length ≤ 1048576) :
    Calls Tryd.prog 18 #[.string (ba l), .string ⟨#[32]⟩] w fun e w' => e = .returned (.int .i64 (lastS l)) ∧ w' = w := by
  exact Tryd.strings_LastIndex_one (ba l) ⟨#[32]⟩ rfl (by rw [ba_size]; omega) w
/-- what a function that reads a name answers -/
def Ans (s : ByteArray) (w : World) (e : Ending) (w' : World) : Prop := ∃ v xs p f u r, e = .returned (.tuple #[.agg #[v, .string p, .string f, .string u], .bool r]) ∧ PI s xs p f u r ∧ w'.ownsRow w.heap.size 9 1 v xs.length (xs.map Value.string) ∧ Below w.heap.size w w'
theorem own_nil (w : World) (base : Nat) : w.ownsRow base 9 1 (.slice none 0 0) 0 [] := ⟨rfl, .inl ⟨rfl, rfl⟩⟩
theorem row_le' {w : World} {b b' : Nat} {e : TypeId} {size : Nat} {v : Value} {n : Nat} {xs : List Value} (h : b' ≤ b) (ho : w.ownsRow b e size v n xs) : w.ownsRow b' e size v n xs := by
  refine ⟨ho.1, ?_⟩
  rcases ho.2 with h' | ⟨g, cap, cur, e1, e2, e3⟩
  · exact .inl h'
  · exact .inr ⟨g, cap, cur, e1, Nat.le_trans h e2, e3⟩
theorem apart_old {w : World} {base b : Nat} {e : TypeId} {size : Nat} {v : Value} {n : Nat} {xs : List Value} (ho : w.ownsRow base e size v n xs) (h : b < base) : v.ownBlock = none ∨ v.ownBlock ≠ some b := by
  rcases ho.2 with ⟨rfl, _⟩ | ⟨g, cap, cur, rfl, e2, _⟩
  · exact .inl rfl
  · refine .inr (fun e => ?_)
    have : g = b := Option.some.inj e
    omega
theorem own_far {w : World} {base b o : Nat} {e : TypeId} {size : Nat} {v x : Value} {n : Nat} {xs : List Value} (ho : w.ownsRow base e size v n xs) (h : b < base) : (w.setCell ⟨b, o, none⟩ x).ownsRow base e size v n xs := by
  refine ⟨ho.1, ?_⟩
  rcases ho.2 with h' | ⟨g, cap, cur, e1, e2, e3, e4⟩
  · exact .inl h'
  · exact .inr ⟨g, cap, cur, e1, e2, by rw [Below.heap_setCell _ _ _ _ (fun e => by have e' : g = b := e; omega)]; exact e3, e4⟩
theorem own4 {w : World} {base b : Nat} {e : TypeId} {size : Nat} {v v0 v1 v2 v3 : Value} {n : Nat} {xs : List Value} (ho : w.ownsRow base e size v n xs) (h : b < base) : ((((w.setCell ⟨b, 0, none⟩ v0).setCell ⟨b, 1, none⟩ v1).setCell ⟨b, 2, none⟩ v2).setCell ⟨b, 3, none⟩ v3).ownsRow base e size v n xs := own_far (own_far (own_far (own_far ho h) h) h) h
theorem own_b {w w1 : World} {base : Nat} {e : TypeId} {size : Nat} {v : Value} {n : Nat} {xs : List Value} (h : w.ownsRow base e size v n xs) (hb : Below w.heap.size w w1) : w1.ownsRow base e size v n xs := Strs.own_below h hb
theorem last_lt {l : List UInt8} (h : 0 ≤ lastS l) : ∃ k : Nat, lastS l = (k : Int) ∧ k < l.length := by
  rcases Lib.lastIndexByte_spec (ba l) 32 with ⟨e, _⟩ | ⟨i, hi, e, _, _⟩
  · exfalso
    unfold lastS at h
    rw [e] at h
    omega
  · exact ⟨i, e, by rw [ba_size] at hi; exact hi⟩
theorem fam_ext (l : List UInt8) (k : Nat) : (ba l).extract (k + 1) (ba l).size = ba (l.drop (k + 1)) := by
  rw [extract_list, toList_ba, ba_size, List.take_length]
theorem part_ext (l : List UInt8) (k : Nat) : (ba l).extract 0 k = ba (l.take k) := by
  rw [extract_list, toList_ba]; simp

/-- block g holds cells, none of them frozen -/
def Nz (w : World) (g : Nat) : Prop := ∃ cs t, w.heap[g]? = some (.cells cs t (0, 0))
theorem Nz.below {w w' : World} {g : Nat} (h : Nz w g) (hb : Below w.heap.size w w') : Nz w' g := by
  obtain ⟨cs, t, e⟩ := h
  exact ⟨cs, t, (hb.block g (Array.getElem?_eq_some_iff.1 e).1).trans e⟩
theorem Nz.set {w : World} {g : Nat} (h : Nz w g) (a : Addr) (v : Value) : Nz (w.setCell a v) g := by
  obtain ⟨cs, t, e⟩ := h
  unfold Nz
  simp only [World.setCell, Array.getElem?_modify]
  by_cases hb : a.block = g
  · rw [if_pos hb, e]; exact ⟨_, _, rfl⟩
  · rw [if_neg hb]; exact ⟨_, _, e⟩
theorem Nz.frozen {w : World} {g : Nat} (h : Nz w g) (o : Nat) (s : _) : w.frozen? ⟨g, o, s⟩ = false := by
  obtain ⟨cs, t, e⟩ := h
  simp [World.frozen?, e]
theorem Nz.new (w : World) (cs : Array Value) (t : TypeId) : Nz (w.alloc (.cells cs t)) w.heap.size := ⟨cs, t, by show (w.heap.push (.cells cs t))[w.heap.size]? = _; simp⟩
theorem ne_formsP {x s : ByteArray} (h : x ≠ s) : (x.toList == s.toList) = false := by
  rw [beq_eq_false_iff_ne]
  intro e
  rw [Lib.toList_data, Lib.toList_data] at e
  exact h (ByteArray.ext (Array.ext' e))
theorem bel4 {W w1 : World} {b : Nat} {v0 v1 v2 v3 : Value} (h : Below W.heap.size W w1) (hb : W.heap.size ≤ b) : Below W.heap.size W ((((w1.setCell ⟨b, 0, none⟩ v0).setCell ⟨b, 1, none⟩ v1).setCell ⟨b, 2, none⟩ v2).setCell ⟨b, 3, none⟩ v3) := by
  have key : ∀ (x : World) (a : Addr) (v : Value), W.heap.size ≤ a.block → Below W.heap.size W x → Below W.heap.size W (x.setCell a v) := fun x a v ha hx => ⟨hx.os, hx.tape, hx.output, by simpa [World.setCell] using hx.size, fun k hk => by rw [Below.heap_setCell _ _ _ _ (fun e => by omega)]; exact hx.block k hk⟩
  exact key _ _ _ hb (key _ _ _ hb (key _ _ _ hb (key _ _ _ hb h)))
/-- the name under way lies in block b, the answer's cells in block r -/
structure Stt (w W : World) (b : Nat) (v : Value) (p f u : ByteArray) : Prop where
  bel : Below w.heap.size w W
  res : C4 W w.heap.size (.slice none 0 0) ⟨#[]⟩ ⟨#[]⟩ ⟨#[]⟩
  nfr : Nz W w.heap.size
  box : C4 W b v p f u
  nfb : Nz W b
  lt : w.heap.size < b
theorem Stt.below {w W W' : World} {b : Nat} {v : Value} {p f u : ByteArray} (h : Stt w W b v p f u) (hb : Below W.heap.size W W') : Stt w W' b v p f u :=
  ⟨h.bel.trans (hb.mono h.bel.size), h.res.below hb, h.nfr.below hb, h.box.below hb, h.nfb.below hb, h.lt⟩
theorem c4_far {W : World} {b c o : Nat} {v x : Value} {p f u : ByteArray} (h : C4 W b v p f u) (hbc : b ≠ c) : C4 (W.setCell ⟨c, o, none⟩ x) b v p f u := by
  obtain ⟨h0, c0, c1, c2, c3⟩ := h
  have key : ∀ k, (W.setCell ⟨c, o, none⟩ x).cell? ⟨b, k, none⟩ = W.cell? ⟨b, k, none⟩ := fun k => World.cell?_setCell_other W _ _ _ (fun e => by cases e; exact hbc rfl)
  exact ⟨by simpa [World.setCell] using h0, (key _).trans c0, (key _).trans c1, (key _).trans c2, (key _).trans c3⟩
theorem c4_0 {W : World} {b : Nat} {v v' : Value} {p f u : ByteArray} (h : C4 W b v p f u) : C4 (W.setCell ⟨b, 0, none⟩ v') b v' p f u := by
  obtain ⟨h0, c0, c1, c2, c3⟩ := h
  have key : ∀ k, k ≠ 0 → (W.setCell ⟨b, 0, none⟩ v').cell? ⟨b, k, none⟩ = W.cell? ⟨b, k, none⟩ := fun k hk => World.cell?_setCell_other W _ _ _ (fun e => by injection e with _ e2 _; omega)
  exact ⟨by simpa [World.setCell] using h0, World.cell?_setCell_same _ _ _ c0, (key _ (by omega)).trans c1, (key _ (by omega)).trans c2, (key _ (by omega)).trans c3⟩
theorem c4_1 {W : World} {b : Nat} {v : Value} {p f u p' : ByteArray} (h : C4 W b v p f u) : C4 (W.setCell ⟨b, 1, none⟩ (.string p')) b v p' f u := by
  obtain ⟨h0, c0, c1, c2, c3⟩ := h
  have key : ∀ k, k ≠ 1 → (W.setCell ⟨b, 1, none⟩ (.string p')).cell? ⟨b, k, none⟩ = W.cell? ⟨b, k, none⟩ := fun k hk => World.cell?_setCell_other W _ _ _ (fun e => by injection e with _ e2 _; omega)
  exact ⟨by simpa [World.setCell] using h0, (key _ (by omega)).trans c0, World.cell?_setCell_same _ _ _ c1, (key _ (by omega)).trans c2, (key _ (by omega)).trans c3⟩
theorem c4_2 {W : World} {b : Nat} {v : Value} {p f u f' : ByteArray} (h : C4 W b v p f u) : C4 (W.setCell ⟨b, 2, none⟩ (.string f')) b v p f' u := by
  obtain ⟨h0, c0, c1, c2, c3⟩ := h
  have key : ∀ k, k ≠ 2 → (W.setCell ⟨b, 2, none⟩ (.string f')).cell? ⟨b, k, none⟩ = W.cell? ⟨b, k, none⟩ := fun k hk => World.cell?_setCell_other W _ _ _ (fun e => by injection e with _ e2 _; omega)
  exact ⟨by simpa [World.setCell] using h0, (key _ (by omega)).trans c0, (key _ (by omega)).trans c1, World.cell?_setCell_same _ _ _ c2, (key _ (by omega)).trans c3⟩
theorem Stt.set {w W W' : World} {b o : Nat} {v x : Value} {p f u p' f' u' : ByteArray} {v' : Value} (h : Stt w W b v p f u) (hW : W' = W.setCell ⟨b, o, none⟩ x) (hc : C4 W' b v' p' f' u') : Stt w W' b v' p' f' u' := by
  subst hW
  refine ⟨?_, c4_far h.res (Nat.ne_of_lt h.lt), h.nfr.set _ _, hc, h.nfb.set _ _, h.lt⟩
  refine ⟨h.bel.os, h.bel.tape, h.bel.output, by simpa [World.setCell] using h.bel.size, fun k hk => ?_⟩
  rw [Below.heap_setCell _ _ _ _ (fun e => by have := h.lt; have e' : k = b := e; omega)]
  exact h.bel.block k hk
theorem Stt.drew {w W : World} {b : Nat} {v : Value} {p f u : ByteArray} (h : Stt w W b v p f u) : Stt w W.drew b v p f u := h.below (Below.drew (Below.refl _ W))
theorem Stt.set12 {w W : World} {b : Nat} {v : Value} {p f u : ByteArray} (p' f' : ByteArray) (h : Stt w W b v p f u) : Stt w ((W.setCell ⟨b, 1, none⟩ (.string p')).setCell ⟨b, 2, none⟩ (.string f')) b v p' f' u :=
  (h.set rfl (c4_1 h.box)).set rfl (c4_2 (c4_1 h.box))

set_option maxRecDepth 100000 in
set_option maxHeartbeats 16000000 in
theorem implPi (s : ByteArray) (w : World) (hml : ML w) (hs : s.size ≤ 1048576) :
    Calls Tryd.prog 7 #[.string s] w (Ans s w) := by
  have HCz := Lib.hid (cand_size s)
  have HL := cut_lens s.data.toList
  have HL2 := cut_lens (Lib.cut s.data.toList [44, 32]).2.1
  have hz := len_size s
  have HB := Lib.hid ((Below.refl _ w).alloc (Nat.le_refl _) (.cells #[.slice none 0 0, .string ⟨#[]⟩, .string ⟨#[]⟩, .string ⟨#[]⟩] 26))
  have HX := Lib.hid (C4.new w (.slice none 0 0) ⟨#[]⟩ ⟨#[]⟩ ⟨#[]⟩ 26)
  have HM := Lib.hid (hml.below HB.out)
  have HZ := Lib.hid (Nz.new w #[.slice none 0 0, .string ⟨#[]⟩, .string ⟨#[]⟩, .string ⟨#[]⟩] 26)
  have HC1 := Lib.hid (fun w (h : ML w) => cutC s.data.toList s (ba_toList s).symm w h (by omega))
  have HC2 := Lib.hid (fun w (h : ML w) => cutC (Lib.cut s.data.toList [44, 32]).2.1 _ rfl w h (by omega))
  have hH : (Lib.cut s.data.toList [44, 32]).1 = cutH s.data.toList := rfl
  have hG : (Lib.cut (Lib.cut s.data.toList [44, 32]).2.1 [44, 32]).1 = cutG s.data.toList := rfl
  have hU : (Lib.cut (Lib.cut s.data.toList [44, 32]).2.1 [44, 32]).2.1 = cutU s.data.toList := rfl
  rw [hH] at HC1 HL
  rw [hG, hU] at HC2
  rw [hG, hU] at HL2
  have HLi := Lib.hid (fun w => lastC (cutH s.data.toList) w (by omega))
  have HcP : Hid (cP s = ba (prtL (cutH s.data.toList))) := Lib.hid rfl
  have HcF : Hid (cF s = ba (famL (cutH s.data.toList))) := Lib.hid rfl
  have HcU : Hid (cU s = ba (cutU s.data.toList)) := Lib.hid rfl
  have HcX : Hid (cX s = (gvL (cutG s.data.toList)).map ba) := Lib.hid rfl
  have HLg := Lib.hid (pi_long (s := s))
  have HNo := Lib.hid (pi_no (s := s))
  have hHl : (cutH s.data.toList).length ≤ 1048576 := by omega
  have hGl : (cutG s.data.toList).length ≤ 1048576 := by omega
  generalize (Lib.cut s.data.toList [44, 32]).2.1 = R at *
  generalize (Lib.cut s.data.toList [44, 32]).2.2 = t1 at *
  generalize (Lib.cut R [44, 32]).2.2 = t2 at *
  generalize cutH s.data.toList = H at *
  generalize cutG s.data.toList = G at *
  generalize cutU s.data.toList = U at *
  clear hH hG hU HL HL2 hz hml
  unfold Ans
  by_cases h0 : 0 ≤ lastS H
  · obtain ⟨k, hk, hkl⟩ := last_lt h0
    have hP : prtL H = H.take k := by unfold prtL; rw [if_pos h0, hk]; rfl
    have hF : famL H = H.drop (k + 1) := by unfold famL; rw [if_pos h0, hk]; rfl
    rw [hP, ← part_ext] at HcP
    rw [hF, ← fam_ext, ba_size] at HcF
    rw [hk] at HLi
    have hsz : (ba H).size = H.length := ba_size H
    clear h0 hk hP hF
    by_cases hg : G = []
    · have hGe : (ba G).toList.isEmpty = true := by rw [hg, Lib.toList_data, toList_ba]; rfl
      have hGe2 : ((ba G).toList == []) = true := by rw [hg, Lib.toList_data, toList_ba]; rfl
      have HG := Lib.hid hg
      clear hg
      go_enter Tryd.func7, Tryd.ntmps7
      go_wp2_with fail
      generalize w.alloc (.cells #[.slice none 0 0, .string ⟨#[]⟩, .string ⟨#[]⟩, .string ⟨#[]⟩] 26) = w0 at HB HX HM HZ ⊢
      refine (HC1.out _ HM.out).mono ?_
      rintro e w1 ⟨rfl, q1, rfl⟩
      go_wp2_with fail
      refine (HC2.out _ (HM.out.drewN q1)).mono ?_
      rintro e w2 ⟨rfl, q2, rfl⟩
      clear HC1 HC2
      have HB2 : Below w.heap.size w ((w0.drewN q1).drewN q2) := ⟨HB.out.os, HB.out.tape, HB.out.output, HB.out.size, HB.out.block⟩
      have HX2 : C4 ((w0.drewN q1).drewN q2) w.heap.size (.slice none 0 0) ⟨#[]⟩ ⟨#[]⟩ ⟨#[]⟩ := HX.out
      have HZ2 : Nz ((w0.drewN q1).drewN q2) w.heap.size := HZ.out
      generalize (w0.drewN q1).drewN q2 = w2 at *
      clear HB HX HM HZ
      have ST : Stt w (w2.alloc (.cells #[.slice none 0 0, .string ⟨#[]⟩, .string (ba H), .string (ba U)] 26)) w2.heap.size (.slice none 0 0) ⟨#[]⟩ (ba H) (ba U) := ⟨HB2.alloc HB2.size _, HX2.below ((Below.refl _ w2).alloc (Nat.le_refl _) _), HZ2.below ((Below.refl _ w2).alloc (Nat.le_refl _) _), C4.new _ _ _ _ _ _, Nz.new _ _ _, HX2.1⟩
      go_wp2_with fail
      generalize w2.alloc (.cells #[.slice none 0 0, .string ⟨#[]⟩, .string (ba H), .string (ba U)] 26) = w3 at *
      generalize w2.heap.size = bn at *
      clear HX2 HB2 HZ2
      refine (HLi.out _).mono ?_
      rintro e w' ⟨rfl, rfl⟩
      clear HLi
      obtain ⟨l0, c0, c1, c2, c3⟩ := ST.box
      have f1 := ST.nfb.frozen 1 none
      have f2 := ST.nfb.frozen 2 none
      have ST1 := Lib.hid (ST.set12 (cP s) (cF s))
      rw [HcP.out, HcF.out, ← HcU.out] at ST1
      have hk0 : (0 : Int) ≤ (k : Int) + 1 := by omega
      have hk1 : ((k : Int) + 1).toNat = k + 1 := by omega
      have hk2 : (k : Int) + 1 ≤ (H.length : Int) := by omega
      have hk3 : (k : Int) ≤ (H.length : Int) := by omega
      have hk4 : ¬ ((H.length : Int) < (k : Int)) := by omega
      have hk5 : k ≤ H.length := by omega
      have hw : IntKind.i64.wrap ((k : Int) + 1) = (k : Int) + 1 := IntWalk.i64_in _ (by omega)
      clear ST
      go_wp2_with fail
      go_region
      go_wp2_with fail
      clear c0 c1 c2 c3 f1 f2 l0 hk0 hk1 hk2 hk3 hk4 hk5 hw
      generalize (w'.setCell ⟨bn, 1, none⟩ (.string ((ba H).extract 0 k))).setCell ⟨bn, 2, none⟩ (.string ((ba H).extract (k + 1) H.length)) = W4 at ST1 ⊢
      rw [← HcP.out, ← HcF.out] at ST1
      replace ST1 := Lib.hid ST1.out.drew
      generalize W4.drew = W5 at ST1 ⊢
      have ST2 := ST1
      have OWN := Lib.hid (own_nil W5 (w.heap.size + 1))
      have hX : cX s = [] := by rw [HcX.out, HG.out]; rfl
      rw [hX] at HNo HCz
      have HIV := Lib.hid (fun W' (hk : Below W5.heap.size W5 W') => implInverseForm none 0 0 ([] : List ByteArray) (cP s) (cF s) (cU s) W' ((Rdn.own OWN.out).below hk) (own_cap OWN.out) (by have := HCz.out; (try simp only [List.length_nil] at this); omega))
      have hag : nmV (.slice none 0 0) (cP s) (cF s) (cU s) = .agg #[.slice none 0 0, .string ((ba H).extract 0 k), .string ((ba H).extract (k + 1) H.length), .string (ba U)] := by rw [HcP.out, HcF.out, HcU.out]
      rw [hag] at HIV
      cases hok : okN ([] : List ByteArray) (cP s) (cF s) (cU s) with
      | false =>
        have hpi := HNo.out (fun h => by rw [hok] at h; cases h)
        rw [hok] at HIV
        clear hok
        refine (HIV.out _ (Below.refl _ _)).mono ?_
        rintro e w9 ⟨rfl, b9⟩
        have ST9 := (by first | exact ST2.out.below b9 | exact ST2.out.drew.below b9 : Stt w w9 bn (.slice none 0 0) (cP s) (cF s) (cU s))
        have hf : txV (invL ([] : List ByteArray) (cP s) (cF s) (cU s)) false = .tuple #[.string ⟨#[]⟩, .bool false] := rfl
        rw [hf]
        clear hf b9
        obtain ⟨r0, x0, x1, x2, x3⟩ := ST9.res
        have g0 := ST9.nfr.frozen 0 none
        have g1 := ST9.nfr.frozen 1 none
        have g2 := ST9.nfr.frozen 2 none
        have g3 := ST9.nfr.frozen 3 none
        go_wp2_with fail
        exact bodyPost_ret (v := .tuple #[.agg #[.slice none 0 0, .string ⟨#[]⟩, .string ⟨#[]⟩, .string ⟨#[]⟩], .bool false]) (by simp [results, Tryd.results7, go_sem, *]) rfl ⟨.slice none 0 0, [], em, em, em, false, rfl, hpi, own_nil _ _, bel4 ST9.bel (Nat.le_refl _)⟩

      | true =>
        rw [hok] at HIV
        by_cases he : ba (invL ([] : List ByteArray) (cP s) (cF s) (cU s)) = s
        · have hpi := pi_yes hok he
          have HE := Lib.hid he
          have hq : ((ba (invL ([] : List ByteArray) (cP s) (cF s) (cU s))).toList == s.toList) = true := by rw [he]; simp
          clear hok he
          refine (HIV.out _ (Below.refl _ _)).mono ?_
          rintro e w9 ⟨rfl, b9⟩
          have ST9 := (by first | exact ST2.out.below b9 | exact ST2.out.drew.below b9 : Stt w w9 bn (.slice none 0 0) (cP s) (cF s) (cU s))
          have O9 := (by first | exact own_b OWN.out b9 | exact own_b OWN.out ((Below.drew (Below.refl _ _)).trans b9) : w9.ownsRow (w.heap.size + 1) 9 1 (.slice none 0 0) 0 ((([] : List ByteArray)).map Value.string))
          have hf : txV (invL ([] : List ByteArray) (cP s) (cF s) (cU s)) true = .tuple #[.string (ba (invL ([] : List ByteArray) (cP s) (cF s) (cU s))), .bool true] := rfl
          rw [hf]
          generalize ba (invL ([] : List ByteArray) (cP s) (cF s) (cU s)) = z at *
          clear hf b9
          obtain ⟨r0, x0, x1, x2, x3⟩ := ST9.res
          obtain ⟨l0, c0, c1, c2, c3⟩ := ST9.box
          have g0 := ST9.nfr.frozen 0 none
          have g1 := ST9.nfr.frozen 1 none
          have g2 := ST9.nfr.frozen 2 none
          have g3 := ST9.nfr.frozen 3 none
          go_wp2_with fail
          exact bodyPost_ret (v := .tuple #[.agg #[.slice none 0 0, .string (cP s), .string (cF s), .string (cU s)], .bool true]) (by simp [results, Tryd.results7, go_sem, *]) rfl ⟨.slice none 0 0, ([] : List ByteArray), cP s, cF s, cU s, true, rfl, hpi, row_le' (Nat.le_succ _) (own4 O9 (Nat.lt_succ_self _)), bel4 ST9.bel (Nat.le_refl _)⟩
        · have hpi := HNo.out (fun _ => he)
          have hq := ne_formsP he
          clear hok he
          refine (HIV.out _ (Below.refl _ _)).mono ?_
          rintro e w9 ⟨rfl, b9⟩
          have ST9 := (by first | exact ST2.out.below b9 | exact ST2.out.drew.below b9 : Stt w w9 bn (.slice none 0 0) (cP s) (cF s) (cU s))
          have hf : txV (invL ([] : List ByteArray) (cP s) (cF s) (cU s)) true = .tuple #[.string (ba (invL ([] : List ByteArray) (cP s) (cF s) (cU s))), .bool true] := rfl
          rw [hf]
          generalize ba (invL ([] : List ByteArray) (cP s) (cF s) (cU s)) = z at *
          clear hf b9
          obtain ⟨r0, x0, x1, x2, x3⟩ := ST9.res
          have g0 := ST9.nfr.frozen 0 none
          have g1 := ST9.nfr.frozen 1 none
          have g2 := ST9.nfr.frozen 2 none
          have g3 := ST9.nfr.frozen 3 none
          go_wp2_with fail
          exact bodyPost_ret (v := .tuple #[.agg #[.slice none 0 0, .string ⟨#[]⟩, .string ⟨#[]⟩, .string ⟨#[]⟩], .bool false]) (by simp [results, Tryd.results7, go_sem, *]) rfl ⟨.slice none 0 0, [], em, em, em, false, rfl, hpi, own_nil _ _, bel4 ST9.bel (Nat.le_refl _)⟩

    · have hGe : (ba G).toList.isEmpty = false := (str_ne (s := ba G) (by rw [toList_ba]; exact hg)).2
      have hGe2 : ((ba G).toList == []) = false := (str_ne (s := ba G) (by rw [toList_ba]; exact hg)).1
      by_cases h4 : 4000 < G.length
      · skip
        go_enter Tryd.func7, Tryd.ntmps7
        go_wp2_with fail
        generalize w.alloc (.cells #[.slice none 0 0, .string ⟨#[]⟩, .string ⟨#[]⟩, .string ⟨#[]⟩] 26) = w0 at HB HX HM HZ ⊢
        refine (HC1.out _ HM.out).mono ?_
        rintro e w1 ⟨rfl, q1, rfl⟩
        go_wp2_with fail
        refine (HC2.out _ (HM.out.drewN q1)).mono ?_
        rintro e w2 ⟨rfl, q2, rfl⟩
        clear HC1 HC2
        have HB2 : Below w.heap.size w ((w0.drewN q1).drewN q2) := ⟨HB.out.os, HB.out.tape, HB.out.output, HB.out.size, HB.out.block⟩
        have HX2 : C4 ((w0.drewN q1).drewN q2) w.heap.size (.slice none 0 0) ⟨#[]⟩ ⟨#[]⟩ ⟨#[]⟩ := HX.out
        have HZ2 : Nz ((w0.drewN q1).drewN q2) w.heap.size := HZ.out
        generalize (w0.drewN q1).drewN q2 = w2 at *
        clear HB HX HM HZ
        have ST : Stt w (w2.alloc (.cells #[.slice none 0 0, .string ⟨#[]⟩, .string (ba H), .string (ba U)] 26)) w2.heap.size (.slice none 0 0) ⟨#[]⟩ (ba H) (ba U) := ⟨HB2.alloc HB2.size _, HX2.below ((Below.refl _ w2).alloc (Nat.le_refl _) _), HZ2.below ((Below.refl _ w2).alloc (Nat.le_refl _) _), C4.new _ _ _ _ _ _, Nz.new _ _ _, HX2.1⟩
        go_wp2_with fail
        generalize w2.alloc (.cells #[.slice none 0 0, .string ⟨#[]⟩, .string (ba H), .string (ba U)] 26) = w3 at *
        generalize w2.heap.size = bn at *
        clear HX2 HB2 HZ2
        refine (HLi.out _).mono ?_
        rintro e w' ⟨rfl, rfl⟩
        clear HLi
        obtain ⟨l0, c0, c1, c2, c3⟩ := ST.box
        have f1 := ST.nfb.frozen 1 none
        have f2 := ST.nfb.frozen 2 none
        have ST1 := Lib.hid (ST.set12 (cP s) (cF s))
        rw [HcP.out, HcF.out, ← HcU.out] at ST1
        have hk0 : (0 : Int) ≤ (k : Int) + 1 := by omega
        have hk1 : ((k : Int) + 1).toNat = k + 1 := by omega
        have hk2 : (k : Int) + 1 ≤ (H.length : Int) := by omega
        have hk3 : (k : Int) ≤ (H.length : Int) := by omega
        have hk4 : ¬ ((H.length : Int) < (k : Int)) := by omega
        have hk5 : k ≤ H.length := by omega
        have hw : IntKind.i64.wrap ((k : Int) + 1) = (k : Int) + 1 := IntWalk.i64_in _ (by omega)
        clear ST
        go_wp2_with fail
        go_region
        go_wp2_with fail
        clear c0 c1 c2 c3 f1 f2 l0 hk0 hk1 hk2 hk3 hk4 hk5 hw
        generalize (w'.setCell ⟨bn, 1, none⟩ (.string ((ba H).extract 0 k))).setCell ⟨bn, 2, none⟩ (.string ((ba H).extract (k + 1) H.length)) = W4 at ST1 ⊢
        rw [← HcP.out, ← HcF.out] at ST1
        replace ST1 := Lib.hid ST1.out.drew
        generalize W4.drew = W5 at ST1 ⊢
        have HS := Lib.hid (Iter.split_no (ba G) ⟨#[32]⟩ W5 (.inl (by rw [ba_size]; omega)))
        have hpi := HLg.out h4
        refine HS.out.mono ?_
        rintro e w6 ⟨rfl, rfl⟩
        have ST9 := ST1.out.below ((Below.refl _ W5).alloc (Nat.le_refl _) (.cells #[] 9))
        clear HS
        obtain ⟨r0, x0, x1, x2, x3⟩ := ST9.res
        have g0 := ST9.nfr.frozen 0 none
        have g1 := ST9.nfr.frozen 1 none
        have g2 := ST9.nfr.frozen 2 none
        have g3 := ST9.nfr.frozen 3 none
        go_wp2_with fail
        exact bodyPost_ret (v := .tuple #[.agg #[.slice none 0 0, .string ⟨#[]⟩, .string ⟨#[]⟩, .string ⟨#[]⟩], .bool false]) (by simp [results, Tryd.results7, go_sem, *]) rfl ⟨.slice none 0 0, [], em, em, em, false, rfl, hpi, own_nil _ _, bel4 ST9.bel (Nat.le_refl _)⟩
      · skip
        go_enter Tryd.func7, Tryd.ntmps7
        go_wp2_with fail
        generalize w.alloc (.cells #[.slice none 0 0, .string ⟨#[]⟩, .string ⟨#[]⟩, .string ⟨#[]⟩] 26) = w0 at HB HX HM HZ ⊢
        refine (HC1.out _ HM.out).mono ?_
        rintro e w1 ⟨rfl, q1, rfl⟩
        go_wp2_with fail
        refine (HC2.out _ (HM.out.drewN q1)).mono ?_
        rintro e w2 ⟨rfl, q2, rfl⟩
        clear HC1 HC2
        have HB2 : Below w.heap.size w ((w0.drewN q1).drewN q2) := ⟨HB.out.os, HB.out.tape, HB.out.output, HB.out.size, HB.out.block⟩
        have HX2 : C4 ((w0.drewN q1).drewN q2) w.heap.size (.slice none 0 0) ⟨#[]⟩ ⟨#[]⟩ ⟨#[]⟩ := HX.out
        have HZ2 : Nz ((w0.drewN q1).drewN q2) w.heap.size := HZ.out
        generalize (w0.drewN q1).drewN q2 = w2 at *
        clear HB HX HM HZ
        have ST : Stt w (w2.alloc (.cells #[.slice none 0 0, .string ⟨#[]⟩, .string (ba H), .string (ba U)] 26)) w2.heap.size (.slice none 0 0) ⟨#[]⟩ (ba H) (ba U) := ⟨HB2.alloc HB2.size _, HX2.below ((Below.refl _ w2).alloc (Nat.le_refl _) _), HZ2.below ((Below.refl _ w2).alloc (Nat.le_refl _) _), C4.new _ _ _ _ _ _, Nz.new _ _ _, HX2.1⟩
        go_wp2_with fail
        generalize w2.alloc (.cells #[.slice none 0 0, .string ⟨#[]⟩, .string (ba H), .string (ba U)] 26) = w3 at *
        generalize w2.heap.size = bn at *
        clear HX2 HB2 HZ2
        refine (HLi.out _).mono ?_
        rintro e w' ⟨rfl, rfl⟩
        clear HLi
        obtain ⟨l0, c0, c1, c2, c3⟩ := ST.box
        have f1 := ST.nfb.frozen 1 none
        have f2 := ST.nfb.frozen 2 none
        have ST1 := Lib.hid (ST.set12 (cP s) (cF s))
        rw [HcP.out, HcF.out, ← HcU.out] at ST1
        have hk0 : (0 : Int) ≤ (k : Int) + 1 := by omega
        have hk1 : ((k : Int) + 1).toNat = k + 1 := by omega
        have hk2 : (k : Int) + 1 ≤ (H.length : Int) := by omega
        have hk3 : (k : Int) ≤ (H.length : Int) := by omega
        have hk4 : ¬ ((H.length : Int) < (k : Int)) := by omega
        have hk5 : k ≤ H.length := by omega
        have hw : IntKind.i64.wrap ((k : Int) + 1) = (k : Int) + 1 := IntWalk.i64_in _ (by omega)
        clear ST
        go_wp2_with fail
        go_region
        go_wp2_with fail
        clear c0 c1 c2 c3 f1 f2 l0 hk0 hk1 hk2 hk3 hk4 hk5 hw
        generalize (w'.setCell ⟨bn, 1, none⟩ (.string ((ba H).extract 0 k))).setCell ⟨bn, 2, none⟩ (.string ((ba H).extract (k + 1) H.length)) = W4 at ST1 ⊢
        rw [← HcP.out, ← HcF.out] at ST1
        replace ST1 := Lib.hid ST1.out.drew
        generalize W4.drew = W5 at ST1 ⊢
        have HS := Lib.hid (Iter.split_any (ba G) ⟨#[32]⟩ W5 (by rw [ba_size]; omega) (by decide) rfl)
        rw [toList_ba] at HS
        refine HS.out.mono ?_
        rintro e w6 ⟨v, rfl, o6, b6⟩
        have ST6 := ST1.out.below b6
        have o6' : w6.ownsRow (w.heap.size + 1) 9 1 v (cX s).length ((cX s).map Value.string) := by
          have e1 : cX s = (split 32 G).map ba := by rw [HcX.out]; unfold gvL; rw [if_neg hg]
          rw [e1, List.length_map, List.map_map]
          exact row_le' (by have := ST1.out.res.1; exact this) o6
        obtain ⟨A, c, rfl, -, -, -⟩ := Strs.own_rds o6'
        have ST7 := ST6.set (W' := w6.setCell ⟨bn, 0, none⟩ (.slice A (cX s).length c)) rfl (c4_0 ST6.box)
        have o7 := o6'.kept (grownBy_setCell' w6 bn (.slice A (cX s).length c)) (apart_old o6 (by have := ST1.out.box.1; exact this))
        obtain ⟨l0, c0, c1, c2, c3⟩ := ST6.box
        have f0 := ST6.nfb.frozen 0 none
        clear HS b6
        go_wp2_with fail
        generalize w6.setCell ⟨bn, 0, none⟩ (.slice A (cX s).length c) = W6 at ST7 o7 ⊢
        have ST2 := Lib.hid ST7
        have OWN := Lib.hid o7
        clear ST7 o7 ST6 o6 o6' l0 c0 c1 c2 c3 f0
        have HIV := Lib.hid (fun W' (hk : Below W6.heap.size W6 W') => implInverseForm A c (cX s).length (cX s) (cP s) (cF s) (cU s) W' ((Rdn.own OWN.out).below hk) (own_cap OWN.out) (by have := HCz.out; (try simp only [List.length_nil] at this); omega))
        cases hok : okN (cX s) (cP s) (cF s) (cU s) with
        | false =>
          have hpi := HNo.out (fun h => by rw [hok] at h; cases h)
          rw [hok] at HIV
          clear hok
          refine (HIV.out _ (Below.refl _ _)).mono ?_
          rintro e w9 ⟨rfl, b9⟩
          have ST9 := (by first | exact ST2.out.below b9 | exact ST2.out.drew.below b9 : Stt w w9 bn (.slice A (cX s).length c) (cP s) (cF s) (cU s))
          have hf : txV (invL (cX s) (cP s) (cF s) (cU s)) false = .tuple #[.string ⟨#[]⟩, .bool false] := rfl
          rw [hf]
          clear hf b9
          obtain ⟨r0, x0, x1, x2, x3⟩ := ST9.res
          have g0 := ST9.nfr.frozen 0 none
          have g1 := ST9.nfr.frozen 1 none
          have g2 := ST9.nfr.frozen 2 none
          have g3 := ST9.nfr.frozen 3 none
          go_wp2_with fail
          exact bodyPost_ret (v := .tuple #[.agg #[.slice none 0 0, .string ⟨#[]⟩, .string ⟨#[]⟩, .string ⟨#[]⟩], .bool false]) (by simp [results, Tryd.results7, go_sem, *]) rfl ⟨.slice none 0 0, [], em, em, em, false, rfl, hpi, own_nil _ _, bel4 ST9.bel (Nat.le_refl _)⟩

        | true =>
          rw [hok] at HIV
          by_cases he : ba (invL (cX s) (cP s) (cF s) (cU s)) = s
          · have hpi := pi_yes hok he
            have HE := Lib.hid he
            have hq : ((ba (invL (cX s) (cP s) (cF s) (cU s))).toList == s.toList) = true := by rw [he]; simp
            clear hok he
            refine (HIV.out _ (Below.refl _ _)).mono ?_
            rintro e w9 ⟨rfl, b9⟩
            have ST9 := (by first | exact ST2.out.below b9 | exact ST2.out.drew.below b9 : Stt w w9 bn (.slice A (cX s).length c) (cP s) (cF s) (cU s))
            have O9 := (by first | exact own_b OWN.out b9 | exact own_b OWN.out ((Below.drew (Below.refl _ _)).trans b9) : w9.ownsRow (w.heap.size + 1) 9 1 (.slice A (cX s).length c) (cX s).length (((cX s)).map Value.string))
            have hf : txV (invL (cX s) (cP s) (cF s) (cU s)) true = .tuple #[.string (ba (invL (cX s) (cP s) (cF s) (cU s))), .bool true] := rfl
            rw [hf]
            generalize ba (invL (cX s) (cP s) (cF s) (cU s)) = z at *
            clear hf b9
            obtain ⟨r0, x0, x1, x2, x3⟩ := ST9.res
            obtain ⟨l0, c0, c1, c2, c3⟩ := ST9.box
            have g0 := ST9.nfr.frozen 0 none
            have g1 := ST9.nfr.frozen 1 none
            have g2 := ST9.nfr.frozen 2 none
            have g3 := ST9.nfr.frozen 3 none
            go_wp2_with fail
            exact bodyPost_ret (v := .tuple #[.agg #[.slice A (cX s).length c, .string (cP s), .string (cF s), .string (cU s)], .bool true]) (by simp [results, Tryd.results7, go_sem, *]) rfl ⟨.slice A (cX s).length c, (cX s), cP s, cF s, cU s, true, rfl, hpi, row_le' (Nat.le_succ _) (own4 O9 (Nat.lt_succ_self _)), bel4 ST9.bel (Nat.le_refl _)⟩
          · have hpi := HNo.out (fun _ => he)
            have hq := ne_formsP he
            clear hok he
            refine (HIV.out _ (Below.refl _ _)).mono ?_
            rintro e w9 ⟨rfl, b9⟩
            have ST9 := (by first | exact ST2.out.below b9 | exact ST2.out.drew.below b9 : Stt w w9 bn (.slice A (cX s).length c) (cP s) (cF s) (cU s))
            have hf : txV (invL (cX s) (cP s) (cF s) (cU s)) true = .tuple #[.string (ba (invL (cX s) (cP s) (cF s) (cU s))), .bool true] := rfl
            rw [hf]
            generalize ba (invL (cX s) (cP s) (cF s) (cU s)) = z at *
            clear hf b9
            obtain ⟨r0, x0, x1, x2, x3⟩ := ST9.res
            have g0 := ST9.nfr.frozen 0 none
            have g1 := ST9.nfr.frozen 1 none
            have g2 := ST9.nfr.frozen 2 none
            have g3 := ST9.nfr.frozen 3 none
            go_wp2_with fail
            exact bodyPost_ret (v := .tuple #[.agg #[.slice none 0 0, .string ⟨#[]⟩, .string ⟨#[]⟩, .string ⟨#[]⟩], .bool false]) (by simp [results, Tryd.results7, go_sem, *]) rfl ⟨.slice none 0 0, [], em, em, em, false, rfl, hpi, own_nil _ _, bel4 ST9.bel (Nat.le_refl _)⟩

  · have hP : prtL H = [] := by unfold prtL; rw [if_neg h0]
    have hF : famL H = H := by unfold famL; rw [if_neg h0]
    rw [hP] at HcP
    rw [hF] at HcF
    have hP0 : ba [] = (⟨#[]⟩ : ByteArray) := rfl
    rw [hP0] at HcP
    have hneg : decide (0 ≤ lastS H) = false := decide_eq_false h0
    clear hP hF hP0
    by_cases hg : G = []
    · have hGe : (ba G).toList.isEmpty = true := by rw [hg, Lib.toList_data, toList_ba]; rfl
      have hGe2 : ((ba G).toList == []) = true := by rw [hg, Lib.toList_data, toList_ba]; rfl
      have HG := Lib.hid hg
      clear hg
      go_enter Tryd.func7, Tryd.ntmps7
      go_wp2_with fail
      generalize w.alloc (.cells #[.slice none 0 0, .string ⟨#[]⟩, .string ⟨#[]⟩, .string ⟨#[]⟩] 26) = w0 at HB HX HM HZ ⊢
      refine (HC1.out _ HM.out).mono ?_
      rintro e w1 ⟨rfl, q1, rfl⟩
      go_wp2_with fail
      refine (HC2.out _ (HM.out.drewN q1)).mono ?_
      rintro e w2 ⟨rfl, q2, rfl⟩
      clear HC1 HC2
      have HB2 : Below w.heap.size w ((w0.drewN q1).drewN q2) := ⟨HB.out.os, HB.out.tape, HB.out.output, HB.out.size, HB.out.block⟩
      have HX2 : C4 ((w0.drewN q1).drewN q2) w.heap.size (.slice none 0 0) ⟨#[]⟩ ⟨#[]⟩ ⟨#[]⟩ := HX.out
      have HZ2 : Nz ((w0.drewN q1).drewN q2) w.heap.size := HZ.out
      generalize (w0.drewN q1).drewN q2 = w2 at *
      clear HB HX HM HZ
      have ST : Stt w (w2.alloc (.cells #[.slice none 0 0, .string ⟨#[]⟩, .string (ba H), .string (ba U)] 26)) w2.heap.size (.slice none 0 0) ⟨#[]⟩ (ba H) (ba U) := ⟨HB2.alloc HB2.size _, HX2.below ((Below.refl _ w2).alloc (Nat.le_refl _) _), HZ2.below ((Below.refl _ w2).alloc (Nat.le_refl _) _), C4.new _ _ _ _ _ _, Nz.new _ _ _, HX2.1⟩
      go_wp2_with fail
      generalize w2.alloc (.cells #[.slice none 0 0, .string ⟨#[]⟩, .string (ba H), .string (ba U)] 26) = w3 at *
      generalize w2.heap.size = bn at *
      clear HX2 HB2 HZ2
      refine (HLi.out _).mono ?_
      rintro e w' ⟨rfl, rfl⟩
      clear HLi
      have ST1 := Lib.hid ST
      obtain ⟨l0, c0, c1, c2, c3⟩ := ST.box
      clear ST
      rw [← HcP.out, ← HcF.out, ← HcU.out] at ST1
      go_wp2_with fail
      clear l0 c0 c1 c2 c3
      generalize w' = W5 at *
      have ST2 := ST1
      have OWN := Lib.hid (own_nil W5 (w.heap.size + 1))
      have hX : cX s = [] := by rw [HcX.out, HG.out]; rfl
      rw [hX] at HNo HCz
      have HIV := Lib.hid (fun W' (hk : Below W5.heap.size W5 W') => implInverseForm none 0 0 ([] : List ByteArray) (cP s) (cF s) (cU s) W' ((Rdn.own OWN.out).below hk) (own_cap OWN.out) (by have := HCz.out; (try simp only [List.length_nil] at this); omega))
      have hag : nmV (.slice none 0 0) (cP s) (cF s) (cU s) = .agg #[.slice none 0 0, .string ⟨#[]⟩, .string (ba H), .string (ba U)] := by rw [HcP.out, HcF.out, HcU.out]
      rw [hag] at HIV
      cases hok : okN ([] : List ByteArray) (cP s) (cF s) (cU s) with
      | false =>
        have hpi := HNo.out (fun h => by rw [hok] at h; cases h)
        rw [hok] at HIV
        clear hok
        refine (HIV.out _ (Below.refl _ _)).mono ?_
        rintro e w9 ⟨rfl, b9⟩
        have ST9 := (by first | exact ST2.out.below b9 | exact ST2.out.drew.below b9 : Stt w w9 bn (.slice none 0 0) (cP s) (cF s) (cU s))
        have hf : txV (invL ([] : List ByteArray) (cP s) (cF s) (cU s)) false = .tuple #[.string ⟨#[]⟩, .bool false] := rfl
        rw [hf]
        clear hf b9
        obtain ⟨r0, x0, x1, x2, x3⟩ := ST9.res
        have g0 := ST9.nfr.frozen 0 none
        have g1 := ST9.nfr.frozen 1 none
        have g2 := ST9.nfr.frozen 2 none
        have g3 := ST9.nfr.frozen 3 none
        go_wp2_with fail
        exact bodyPost_ret (v := .tuple #[.agg #[.slice none 0 0, .string ⟨#[]⟩, .string ⟨#[]⟩, .string ⟨#[]⟩], .bool false]) (by simp [results, Tryd.results7, go_sem, *]) rfl ⟨.slice none 0 0, [], em, em, em, false, rfl, hpi, own_nil _ _, bel4 ST9.bel (Nat.le_refl _)⟩

      | true =>
        rw [hok] at HIV
        by_cases he : ba (invL ([] : List ByteArray) (cP s) (cF s) (cU s)) = s
        · have hpi := pi_yes hok he
          have HE := Lib.hid he
          have hq : ((ba (invL ([] : List ByteArray) (cP s) (cF s) (cU s))).toList == s.toList) = true := by rw [he]; simp
          clear hok he
          refine (HIV.out _ (Below.refl _ _)).mono ?_
          rintro e w9 ⟨rfl, b9⟩
          have ST9 := (by first | exact ST2.out.below b9 | exact ST2.out.drew.below b9 : Stt w w9 bn (.slice none 0 0) (cP s) (cF s) (cU s))
          have O9 := (by first | exact own_b OWN.out b9 | exact own_b OWN.out ((Below.drew (Below.refl _ _)).trans b9) : w9.ownsRow (w.heap.size + 1) 9 1 (.slice none 0 0) 0 ((([] : List ByteArray)).map Value.string))
          have hf : txV (invL ([] : List ByteArray) (cP s) (cF s) (cU s)) true = .tuple #[.string (ba (invL ([] : List ByteArray) (cP s) (cF s) (cU s))), .bool true] := rfl
          rw [hf]
          generalize ba (invL ([] : List ByteArray) (cP s) (cF s) (cU s)) = z at *
          clear hf b9
          obtain ⟨r0, x0, x1, x2, x3⟩ := ST9.res
          obtain ⟨l0, c0, c1, c2, c3⟩ := ST9.box
          have g0 := ST9.nfr.frozen 0 none
          have g1 := ST9.nfr.frozen 1 none
          have g2 := ST9.nfr.frozen 2 none
          have g3 := ST9.nfr.frozen 3 none
          go_wp2_with fail
          exact bodyPost_ret (v := .tuple #[.agg #[.slice none 0 0, .string (cP s), .string (cF s), .string (cU s)], .bool true]) (by simp [results, Tryd.results7, go_sem, *]) rfl ⟨.slice none 0 0, ([] : List ByteArray), cP s, cF s, cU s, true, rfl, hpi, row_le' (Nat.le_succ _) (own4 O9 (Nat.lt_succ_self _)), bel4 ST9.bel (Nat.le_refl _)⟩
        · have hpi := HNo.out (fun _ => he)
          have hq := ne_formsP he
          clear hok he
          refine (HIV.out _ (Below.refl _ _)).mono ?_
          rintro e w9 ⟨rfl, b9⟩
          have ST9 := (by first | exact ST2.out.below b9 | exact ST2.out.drew.below b9 : Stt w w9 bn (.slice none 0 0) (cP s) (cF s) (cU s))
          have hf : txV (invL ([] : List ByteArray) (cP s) (cF s) (cU s)) true = .tuple #[.string (ba (invL ([] : List ByteArray) (cP s) (cF s) (cU s))), .bool true] := rfl
          rw [hf]
          generalize ba (invL ([] : List ByteArray) (cP s) (cF s) (cU s)) = z at *
          clear hf b9
          obtain ⟨r0, x0, x1, x2, x3⟩ := ST9.res
          have g0 := ST9.nfr.frozen 0 none
          have g1 := ST9.nfr.frozen 1 none
          have g2 := ST9.nfr.frozen 2 none
          have g3 := ST9.nfr.frozen 3 none
          go_wp2_with fail
          exact bodyPost_ret (v := .tuple #[.agg #[.slice none 0 0, .string ⟨#[]⟩, .string ⟨#[]⟩, .string ⟨#[]⟩], .bool false]) (by simp [results, Tryd.results7, go_sem, *]) rfl ⟨.slice none 0 0, [], em, em, em, false, rfl, hpi, own_nil _ _, bel4 ST9.bel (Nat.le_refl _)⟩

    · have hGe : (ba G).toList.isEmpty = false := (str_ne (s := ba G) (by rw [toList_ba]; exact hg)).2
      have hGe2 : ((ba G).toList == []) = false := (str_ne (s := ba G) (by rw [toList_ba]; exact hg)).1
      by_cases h4 : 4000 < G.length
      · skip
        go_enter Tryd.func7, Tryd.ntmps7
        go_wp2_with fail
        generalize w.alloc (.cells #[.slice none 0 0, .string ⟨#[]⟩, .string ⟨#[]⟩, .string ⟨#[]⟩] 26) = w0 at HB HX HM HZ ⊢
        refine (HC1.out _ HM.out).mono ?_
        rintro e w1 ⟨rfl, q1, rfl⟩
        go_wp2_with fail
        refine (HC2.out _ (HM.out.drewN q1)).mono ?_
        rintro e w2 ⟨rfl, q2, rfl⟩
        clear HC1 HC2
        have HB2 : Below w.heap.size w ((w0.drewN q1).drewN q2) := ⟨HB.out.os, HB.out.tape, HB.out.output, HB.out.size, HB.out.block⟩
        have HX2 : C4 ((w0.drewN q1).drewN q2) w.heap.size (.slice none 0 0) ⟨#[]⟩ ⟨#[]⟩ ⟨#[]⟩ := HX.out
        have HZ2 : Nz ((w0.drewN q1).drewN q2) w.heap.size := HZ.out
        generalize (w0.drewN q1).drewN q2 = w2 at *
        clear HB HX HM HZ
        have ST : Stt w (w2.alloc (.cells #[.slice none 0 0, .string ⟨#[]⟩, .string (ba H), .string (ba U)] 26)) w2.heap.size (.slice none 0 0) ⟨#[]⟩ (ba H) (ba U) := ⟨HB2.alloc HB2.size _, HX2.below ((Below.refl _ w2).alloc (Nat.le_refl _) _), HZ2.below ((Below.refl _ w2).alloc (Nat.le_refl _) _), C4.new _ _ _ _ _ _, Nz.new _ _ _, HX2.1⟩
        go_wp2_with fail
        generalize w2.alloc (.cells #[.slice none 0 0, .string ⟨#[]⟩, .string (ba H), .string (ba U)] 26) = w3 at *
        generalize w2.heap.size = bn at *
        clear HX2 HB2 HZ2
        refine (HLi.out _).mono ?_
        rintro e w' ⟨rfl, rfl⟩
        clear HLi
        have ST1 := Lib.hid ST
        obtain ⟨l0, c0, c1, c2, c3⟩ := ST.box
        clear ST
        rw [← HcP.out, ← HcF.out, ← HcU.out] at ST1
        go_wp2_with fail
        clear l0 c0 c1 c2 c3
        generalize w' = W5 at *
        have HS := Lib.hid (Iter.split_no (ba G) ⟨#[32]⟩ W5 (.inl (by rw [ba_size]; omega)))
        have hpi := HLg.out h4
        refine HS.out.mono ?_
        rintro e w6 ⟨rfl, rfl⟩
        have ST9 := ST1.out.below ((Below.refl _ W5).alloc (Nat.le_refl _) (.cells #[] 9))
        clear HS
        obtain ⟨r0, x0, x1, x2, x3⟩ := ST9.res
        have g0 := ST9.nfr.frozen 0 none
        have g1 := ST9.nfr.frozen 1 none
        have g2 := ST9.nfr.frozen 2 none
        have g3 := ST9.nfr.frozen 3 none
        go_wp2_with fail
        exact bodyPost_ret (v := .tuple #[.agg #[.slice none 0 0, .string ⟨#[]⟩, .string ⟨#[]⟩, .string ⟨#[]⟩], .bool false]) (by simp [results, Tryd.results7, go_sem, *]) rfl ⟨.slice none 0 0, [], em, em, em, false, rfl, hpi, own_nil _ _, bel4 ST9.bel (Nat.le_refl _)⟩
      · skip
        go_enter Tryd.func7, Tryd.ntmps7
        go_wp2_with fail
        generalize w.alloc (.cells #[.slice none 0 0, .string ⟨#[]⟩, .string ⟨#[]⟩, .string ⟨#[]⟩] 26) = w0 at HB HX HM HZ ⊢
        refine (HC1.out _ HM.out).mono ?_
        rintro e w1 ⟨rfl, q1, rfl⟩
        go_wp2_with fail
        refine (HC2.out _ (HM.out.drewN q1)).mono ?_
        rintro e w2 ⟨rfl, q2, rfl⟩
        clear HC1 HC2
        have HB2 : Below w.heap.size w ((w0.drewN q1).drewN q2) := ⟨HB.out.os, HB.out.tape, HB.out.output, HB.out.size, HB.out.block⟩
        have HX2 : C4 ((w0.drewN q1).drewN q2) w.heap.size (.slice none 0 0) ⟨#[]⟩ ⟨#[]⟩ ⟨#[]⟩ := HX.out
        have HZ2 : Nz ((w0.drewN q1).drewN q2) w.heap.size := HZ.out
        generalize (w0.drewN q1).drewN q2 = w2 at *
        clear HB HX HM HZ
        have ST : Stt w (w2.alloc (.cells #[.slice none 0 0, .string ⟨#[]⟩, .string (ba H), .string (ba U)] 26)) w2.heap.size (.slice none 0 0) ⟨#[]⟩ (ba H) (ba U) := ⟨HB2.alloc HB2.size _, HX2.below ((Below.refl _ w2).alloc (Nat.le_refl _) _), HZ2.below ((Below.refl _ w2).alloc (Nat.le_refl _) _), C4.new _ _ _ _ _ _, Nz.new _ _ _, HX2.1⟩
        go_wp2_with fail
        generalize w2.alloc (.cells #[.slice none 0 0, .string ⟨#[]⟩, .string (ba H), .string (ba U)] 26) = w3 at *
        generalize w2.heap.size = bn at *
        clear HX2 HB2 HZ2
        refine (HLi.out _).mono ?_
        rintro e w' ⟨rfl, rfl⟩
        clear HLi
        have ST1 := Lib.hid ST
        obtain ⟨l0, c0, c1, c2, c3⟩ := ST.box
        clear ST
        rw [← HcP.out, ← HcF.out, ← HcU.out] at ST1
        go_wp2_with fail
        clear l0 c0 c1 c2 c3
        generalize w' = W5 at *
        have HS := Lib.hid (Iter.split_any (ba G) ⟨#[32]⟩ W5 (by rw [ba_size]; omega) (by decide) rfl)
        rw [toList_ba] at HS
        refine HS.out.mono ?_
        rintro e w6 ⟨v, rfl, o6, b6⟩
        have ST6 := ST1.out.below b6
        have o6' : w6.ownsRow (w.heap.size + 1) 9 1 v (cX s).length ((cX s).map Value.string) := by
          have e1 : cX s = (split 32 G).map ba := by rw [HcX.out]; unfold gvL; rw [if_neg hg]
          rw [e1, List.length_map, List.map_map]
          exact row_le' (by have := ST1.out.res.1; exact this) o6
        obtain ⟨A, c, rfl, -, -, -⟩ := Strs.own_rds o6'
        have ST7 := ST6.set (W' := w6.setCell ⟨bn, 0, none⟩ (.slice A (cX s).length c)) rfl (c4_0 ST6.box)
        have o7 := o6'.kept (grownBy_setCell' w6 bn (.slice A (cX s).length c)) (apart_old o6 (by have := ST1.out.box.1; exact this))
        obtain ⟨l0, c0, c1, c2, c3⟩ := ST6.box
        have f0 := ST6.nfb.frozen 0 none
        clear HS b6
        go_wp2_with fail
        generalize w6.setCell ⟨bn, 0, none⟩ (.slice A (cX s).length c) = W6 at ST7 o7 ⊢
        have ST2 := Lib.hid ST7
        have OWN := Lib.hid o7
        clear ST7 o7 ST6 o6 o6' l0 c0 c1 c2 c3 f0
        have HIV := Lib.hid (fun W' (hk : Below W6.heap.size W6 W') => implInverseForm A c (cX s).length (cX s) (cP s) (cF s) (cU s) W' ((Rdn.own OWN.out).below hk) (own_cap OWN.out) (by have := HCz.out; (try simp only [List.length_nil] at this); omega))
        cases hok : okN (cX s) (cP s) (cF s) (cU s) with
        | false =>
          have hpi := HNo.out (fun h => by rw [hok] at h; cases h)
          rw [hok] at HIV
          clear hok
          refine (HIV.out _ (Below.refl _ _)).mono ?_
          rintro e w9 ⟨rfl, b9⟩
          have ST9 := (by first | exact ST2.out.below b9 | exact ST2.out.drew.below b9 : Stt w w9 bn (.slice A (cX s).length c) (cP s) (cF s) (cU s))
          have hf : txV (invL (cX s) (cP s) (cF s) (cU s)) false = .tuple #[.string ⟨#[]⟩, .bool false] := rfl
          rw [hf]
          clear hf b9
          obtain ⟨r0, x0, x1, x2, x3⟩ := ST9.res
          have g0 := ST9.nfr.frozen 0 none
          have g1 := ST9.nfr.frozen 1 none
          have g2 := ST9.nfr.frozen 2 none
          have g3 := ST9.nfr.frozen 3 none
          go_wp2_with fail
          exact bodyPost_ret (v := .tuple #[.agg #[.slice none 0 0, .string ⟨#[]⟩, .string ⟨#[]⟩, .string ⟨#[]⟩], .bool false]) (by simp [results, Tryd.results7, go_sem, *]) rfl ⟨.slice none 0 0, [], em, em, em, false, rfl, hpi, own_nil _ _, bel4 ST9.bel (Nat.le_refl _)⟩

        | true =>
          rw [hok] at HIV
          by_cases he : ba (invL (cX s) (cP s) (cF s) (cU s)) = s
          · have hpi := pi_yes hok he
            have HE := Lib.hid he
            have hq : ((ba (invL (cX s) (cP s) (cF s) (cU s))).toList == s.toList) = true := by rw [he]; simp
            clear hok he
            refine (HIV.out _ (Below.refl _ _)).mono ?_
            rintro e w9 ⟨rfl, b9⟩
            have ST9 := (by first | exact ST2.out.below b9 | exact ST2.out.drew.below b9 : Stt w w9 bn (.slice A (cX s).length c) (cP s) (cF s) (cU s))
            have O9 := (by first | exact own_b OWN.out b9 | exact own_b OWN.out ((Below.drew (Below.refl _ _)).trans b9) : w9.ownsRow (w.heap.size + 1) 9 1 (.slice A (cX s).length c) (cX s).length (((cX s)).map Value.string))
            have hf : txV (invL (cX s) (cP s) (cF s) (cU s)) true = .tuple #[.string (ba (invL (cX s) (cP s) (cF s) (cU s))), .bool true] := rfl
            rw [hf]
            generalize ba (invL (cX s) (cP s) (cF s) (cU s)) = z at *
            clear hf b9
            obtain ⟨r0, x0, x1, x2, x3⟩ := ST9.res
            obtain ⟨l0, c0, c1, c2, c3⟩ := ST9.box
            have g0 := ST9.nfr.frozen 0 none
            have g1 := ST9.nfr.frozen 1 none
            have g2 := ST9.nfr.frozen 2 none
            have g3 := ST9.nfr.frozen 3 none
            go_wp2_with fail
            exact bodyPost_ret (v := .tuple #[.agg #[.slice A (cX s).length c, .string (cP s), .string (cF s), .string (cU s)], .bool true]) (by simp [results, Tryd.results7, go_sem, *]) rfl ⟨.slice A (cX s).length c, (cX s), cP s, cF s, cU s, true, rfl, hpi, row_le' (Nat.le_succ _) (own4 O9 (Nat.lt_succ_self _)), bel4 ST9.bel (Nat.le_refl _)⟩
          · have hpi := HNo.out (fun _ => he)
            have hq := ne_formsP he
            clear hok he
            refine (HIV.out _ (Below.refl _ _)).mono ?_
            rintro e w9 ⟨rfl, b9⟩
            have ST9 := (by first | exact ST2.out.below b9 | exact ST2.out.drew.below b9 : Stt w w9 bn (.slice A (cX s).length c) (cP s) (cF s) (cU s))
            have hf : txV (invL (cX s) (cP s) (cF s) (cU s)) true = .tuple #[.string (ba (invL (cX s) (cP s) (cF s) (cU s))), .bool true] := rfl
            rw [hf]
            generalize ba (invL (cX s) (cP s) (cF s) (cU s)) = z at *
            clear hf b9
            obtain ⟨r0, x0, x1, x2, x3⟩ := ST9.res
            have g0 := ST9.nfr.frozen 0 none
            have g1 := ST9.nfr.frozen 1 none
            have g2 := ST9.nfr.frozen 2 none
            have g3 := ST9.nfr.frozen 3 none
            go_wp2_with fail
            exact bodyPost_ret (v := .tuple #[.agg #[.slice none 0 0, .string ⟨#[]⟩, .string ⟨#[]⟩, .string ⟨#[]⟩], .bool false]) (by simp [results, Tryd.results7, go_sem, *]) rfl ⟨.slice none 0 0, [], em, em, em, false, rfl, hpi, own_nil _ _, bel4 ST9.bel (Nat.le_refl _)⟩


end Go.Proofs.YtmdjdgamojndkaaDoor.Pi
