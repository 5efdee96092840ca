/-
  Drawing functions of chapter 2: twoNames.
-/
import Derived.Test.YtmdjdgamojndkaaDoorDnA
import Derived.RegionTactic
import Derived.BigRegion
namespace Go.Proofs.YtmdjdgamojndkaaDoor.StN
open Go.RowKit Pl Cur Draw0 Strs Help Name
set_option linter.unusedVariables false
set_option linter.unusedSimpArgs false

/-- two drawn names -/
def TwoNm (w : World) (g : Nat) (A : Option Addr) (n c k m q : Nat) (e : Ending) (w' : World) : Prop :=
  ∃ Aa ca xs p f s Ab cb ys p2 f2 s2, e = .returned (.tuple #[nmV (.slice Aa (xs : List ByteArray).length ca) p f s, nmV (.slice Ab (ys : List ByteArray).length cb) p2 f2 s2]) ∧ Gv w' (w.heap.size + 2) (.slice Aa xs.length ca) xs ∧ Gv w' (w.heap.size + 2) (.slice Ab ys.length cb) ys ∧ xs.length ≤ q ∧ ys.length ≤ q ∧ (∀ x ∈ xs, Sm x) ∧ (∀ x ∈ ys, Sm x) ∧ Sm p ∧ Sm f ∧ Sm s ∧ Sm p2 ∧ Sm f2 ∧ Sm s2 ∧ LeftC w g A n c k m w'
theorem C4F.set4 {W : World} {b : Nat} {v : Value} {p f s : ByteArray} (h : C4F W b v p f s) (v' : Value) (p' f' s' : ByteArray) : C4F ((((W.setCell ⟨b, 0, none⟩ v').setCell ⟨b, 1, none⟩ (.string p')).setCell ⟨b, 2, none⟩ (.string f')).setCell ⟨b, 3, none⟩ (.string s')) b v' p' f' s' := (((h.set0 v').set1 p').set2 f').set3 s'
theorem C4F.far4 {W : World} {b b' : Nat} {v0 v1 v2 v3 v : Value} {p f s : ByteArray} (hne : b ≠ b') (h : C4F W b' v p f s) : C4F ((((W.setCell ⟨b, 0, none⟩ v0).setCell ⟨b, 1, none⟩ v1).setCell ⟨b, 2, none⟩ v2).setCell ⟨b, 3, none⟩ v3) b' v p f s := (((h.far hne).far hne).far hne).far hne
theorem St.set4 {w W : World} {g : Nat} {A : Option Addr} {n c k m : Nat} (h : St w g A n c k m W) (b : Nat) (v0 v1 v2 v3 : Value) (hb : w.heap.size ≤ b) : St w g A n c k m ((((W.setCell ⟨b, 0, none⟩ v0).setCell ⟨b, 1, none⟩ v1).setCell ⟨b, 2, none⟩ v2).setCell ⟨b, 3, none⟩ v3) := (((h.set b 0 v0 hb).set b 1 v1 hb).set b 2 v2 hb).set b 3 v3 hb
theorem Gv.set4 {W : World} {B b : Nat} {u : Value} {xs : List ByteArray} (h : Gv W B u xs) (hb : b < B) (v0 v1 v2 v3 : Value) : Gv ((((W.setCell ⟨b, 0, none⟩ v0).setCell ⟨b, 1, none⟩ v1).setCell ⟨b, 2, none⟩ v2).setCell ⟨b, 3, none⟩ v3) B u xs := (((h.setc hb 0 v0).setc hb 1 v1).setc hb 2 v2).setc hb 3 v3
theorem gen8n {P : World → Prop} {w W2 : World} {g : Nat} {A : Option Addr} {n c k m b b' : Nat} {xs ys : List ByteArray} {va vb : Value} (hS : St w g A n c k m W2) (hb : w.heap.size ≤ b) (hb2 : b < w.heap.size + 2) (hb' : w.heap.size ≤ b') (hb2' : b' < w.heap.size + 2) (hne : b ≠ b')
    {v0 v1 : Value} {e1 e2 e3 e4 e5 e6 : ByteArray} (hp : C4F W2 b v0 e1 e2 e3) (hq : C4F W2 b' v1 e4 e5 e6) (hGa : Gv W2 (w.heap.size + 2) va xs) (hGb : Gv W2 (w.heap.size + 2) vb ys) {pa fa sa pb fb sb : ByteArray}
    (h : ∀ W3, St w g A n c k m W3 → C4 W3 b va pa fa sa → C4 W3 b' vb pb fb sb → Gv W3 (w.heap.size + 2) va xs → Gv W3 (w.heap.size + 2) vb ys → P W3) :
    P ((((((((W2.setCell ⟨b, 0, none⟩ va).setCell ⟨b, 1, none⟩ (.string pa)).setCell ⟨b, 2, none⟩ (.string fa)).setCell ⟨b, 3, none⟩ (.string sa)).setCell ⟨b', 0, none⟩ vb).setCell ⟨b', 1, none⟩ (.string pb)).setCell ⟨b', 2, none⟩ (.string fb)).setCell ⟨b', 3, none⟩ (.string sb)).drew := by
  have key : ∀ X, St w g A n c k m X → C4 X b va pa fa sa → C4 X b' vb pb fb sb → Gv X (w.heap.size + 2) va xs → Gv X (w.heap.size + 2) vb ys → P X.drew := fun X a c d e f => h X.drew a.drew c d e f
  exact key _ ((hS.set4 b _ _ _ _ hb).set4 b' _ _ _ _ hb') ((hp.set4 va pa fa sa).far4 (Ne.symm hne)).1 ((hq.far4 hne).set4 vb pb fb sb).1 ((hGa.set4 hb2 _ _ _ _).set4 hb2' _ _ _ _) ((hGb.set4 hb2 _ _ _ _).set4 hb2' _ _ _ _)
end Go.Proofs.YtmdjdgamojndkaaDoor.StN
