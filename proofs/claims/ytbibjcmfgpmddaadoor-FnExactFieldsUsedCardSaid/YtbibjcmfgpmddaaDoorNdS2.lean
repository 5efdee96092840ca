/-
  Words of styles: contracts of styleFields, isStyleField, l9In, l9Field; kindOfWord, l9Kind.
-/
import Derived.Test.YtbibjcmfgpmddaaDoorNdS
import Derived.Laws.NewBlocks
namespace Go.Proofs.YtbibjcmfgpmddaaDoor.Ns
open Go.RowKit NdPl Pl NmPl LaidS
set_option linter.unusedSimpArgs false
set_option linter.unusedVariables false

theorem infoS : (Tryd.prog.info? 9).map (fun i => (i.zero, i.size, i.bytes)) = some (some (.string ByteArray.empty), 1, 16) := by kernel_rfl
theorem info_parts {P : Program} {t : TypeId} {z : Option Value} {a b : Nat} (h : (P.info? t).map (fun i => (i.zero, i.size, i.bytes)) = some (z, a, b)) : ∃ i, P.info? t = some i ∧ i.zero = z ∧ i.size = a ∧ i.bytes = b := by
  cases e : P.info? t with
  | none => rw [e] at h; cases h
  | some i => rw [e] at h; cases h; exact ⟨i, rfl, rfl, rfl, rfl⟩
theorem two_new (w : World) (x y : Value) (t : TypeId) : ∀ j u, [x, y][j]? = some u → (w.alloc (.cells #[x, y] t)).cell? ((⟨w.heap.size, 0, none⟩ : Addr).add j) = some u := by
  intro j u hj
  match j, hj with
  | 0, hj => simp at hj; subst hj; simp [Addr.add]
  | 1, hj => simp at hj; subst hj; simp [Addr.add]
  | j + 2, hj => simp at hj
set_option maxHeartbeats 1000000 in
theorem styleFields (w : World) : Calls Tryd.prog 69 #[] w fun e w' => ∃ v, e = .returned v ∧ w'.ownsRow w.heap.size 9 1 v 10 (sfs.map Value.string) ∧ Below w.heap.size w w' := by
  obtain ⟨i0, hi, hz0, hz1, hz2⟩ := info_parts infoS
  go_enter Tryd.func69, Tryd.ntmps69
  go_wp2_with fail
  refine (fieldWords _).mono ?_
  rintro e w1 ⟨rfl, ho, b1⟩
  go_wp2_with (first | (at_builtin; refine wpList_append_own _ rfl _ _ 28 rfl w.heap.size 9 i0 (.string ByteArray.empty) 1 16 Tryd.underlying28 hi hz0 hz1 hz2 rfl (by decide) _ _ _ rfl (ho.alloc _) ⟨w1.heap.size, 0, none⟩ 2 2 [.string yrB, .string kyB] rfl rfl (two_new _ _ _ _) (by simp [Value.oneCell']) (by unfold maxLen; omega) (by omega) (by have := b1.size; simp; omega) ?_; intro v2 w2 o2 k2 _))
  go_ret
  exact ⟨v2, rfl, o2, (b1.alloc b1.size _).grown k2 (by have := b1.size; simp; omega) (fun g hg => (ho.lt g hg).1)⟩
theorem own_cells {w : World} {base : Nat} {e : TypeId} {v : Value} {n : Nat} {L : List ByteArray} (hp : 0 < n) (h : w.ownsRow base e 1 v n (L.map Value.string)) :
    ∃ g c, v = .slice (some ⟨g, 0, none⟩) n c ∧ g < w.heap.size ∧ L.length = n ∧ n ≤ c ∧ ∀ j, j < L.length → w.cell? ⟨g, j, none⟩ = some (.string (L.getD j ByteArray.empty)) := by
  have hl : L.length = n := by have := h.1; simpa using this
  rcases h.2 with ⟨_, h0⟩ | ⟨g, cap, cur, rfl, _, hg, hc, _⟩
  · omega
  · refine ⟨g, cap, rfl, (Array.getElem?_eq_some_iff.1 hg).1, hl, hc, fun j hj => ?_⟩
    rw [World.ownsRow.cellAt h j (by omega), List.getElem?_map, List.getD_eq_getElem?_getD, List.getElem?_eq_getElem hj]
    rfl
set_option maxHeartbeats 1000000 in
theorem sfield_i (s : ByteArray) (r : Bool) (w : World) (hr : isSF s = r) : Calls Tryd.prog 64 #[.string s] w fun e w' => e = .returned (.bool r) ∧ Below w.heap.size w w' := by
  have HR := Lib.hid hr
  clear hr
  go_enter Tryd.func64, Tryd.ntmps64
  go_wp2_with fail
  refine (styleFields _).mono ?_
  rintro e w1 ⟨v, rfl, ho, b1⟩
  obtain ⟨g, c, rfl, hg, hl, hn, hc⟩ := own_cells (by decide) ho
  have HS := Lib.hid (Tryd.slices_Contains_string g 0 10 c sfs s w1 (by decide) (by decide) (by simpa using hc))
  have e10 : Lib.containsS (sfs.take 10) s = r := HR.out
  rw [e10] at HS
  clear hc ho e10
  go_wp2_with fail
  refine HS.out.mono ?_
  rintro e w2 ⟨rfl, rfl⟩
  go_wp2_with fail
  go_ret
  exact ⟨rfl, b1⟩
/-- a list of strings has one -/
def anyEq (l : List ByteArray) (s : ByteArray) : Bool := l.any (fun x => x.data.toList == s.data.toList)
theorem any_at {l : List ByteArray} {s : ByteArray} {k : Nat} (h : k < l.length) : anyEq (l.drop k) s = ((l.getD k ByteArray.empty).data.toList == s.data.toList || anyEq (l.drop (k + 1)) s) := by
  rw [List.drop_eq_getElem_cons h, List.getD_eq_getElem?_getD, List.getElem?_eq_getElem h]
  rfl
theorem any_mem (l : List ByteArray) (s : ByteArray) : anyEq l s = Lib.containsS l s := by
  rw [Bool.eq_iff_iff, Lib.containsS_iff]
  unfold anyEq
  rw [List.any_eq_true]
  constructor
  · rintro ⟨x, hx, he⟩
    have : x = s := by
      have h1 := eq_of_beq he
      rw [← ba_toList x, h1, ba_toList]
    exact this ▸ hx
  · intro h
    exact ⟨s, h, beq_self_eq_true _⟩
set_option maxHeartbeats 1000000 in
theorem l9In (g c n : Nat) (l : List ByteArray) (s : ByteArray) (r : Bool) (w : World) (hn : l.length = n) (hm : n ≤ 1048576) (hc : ∀ j, j < n → w.cell? ⟨g, j, none⟩ = some (.string (l.getD j ByteArray.empty))) (hr : Lib.containsS l s = r) :
    Calls Tryd.prog 58 #[.slice (some ⟨g, 0, none⟩) n c, .string s] w fun e w' => e = .returned (.bool r) ∧ w = w' := by
  have HR := Lib.hid hr.symm
  rw [← any_mem] at HR
  have HC := Lib.hid hc
  have HN := Lib.hid hn
  clear hr hc hn
  go_enter Tryd.func58, Tryd.ntmps58
  go_wp2_with fail
  go_loop [5] (fun i => ∃ k : Nat, k ≤ n ∧ i = .int .i64 k ∧ Hid (anyEq (l.drop k) s = anyEq l s)) (fun i => n - (intOf i).toNat)
  case atStart => exact ⟨0, Nat.zero_le _, rfl, Lib.hid rfl⟩
  case round =>
    obtain ⟨k, hk, rfl, HD⟩ := hrel
    by_cases hlt : k < n
    · have HA := Lib.hid (any_at (s := s) (show k < l.length by rw [HN.out]; exact hlt))
      have hc0 := HC.out k hlt
      generalize l.getD k ByteArray.empty = x at *
      cases he : (x.data.toList == s.data.toList) with
      | true =>
        have HF : Hid (r = true) := Lib.hid (by rw [HR.out, ← HD.out, HA.out, he]; rfl)
        obtain rfl : x = s := by rw [← ba_toList x, eq_of_beq he, ba_toList]
        clear he
        go_wp2_with fail
        go_ret
        exact ⟨by rw [HF.out]; rfl, rfl⟩
      | false =>
        have HF : Hid (anyEq (l.drop (k + 1)) s = anyEq l s) := Lib.hid (by rw [← HD.out, HA.out, he]; rfl)
        have he2 : (x.toList == s.toList) = false := by rw [Lib.toList_data, Lib.toList_data]; exact he
        clear he
        go_wp2_with fail
        go_round
        case rel => exact ⟨k + 1, by omega, by go_num, HF⟩
        case measure => simp [intOf]; omega
    · have HF : Hid (r = false) := Lib.hid (by rw [HR.out, ← HD.out, List.drop_eq_nil_of_le (by rw [HN.out]; omega)]; rfl)
      go_wp2_with fail
      go_ret
      exact ⟨by rw [HF.out]; rfl, rfl⟩
end Go.Proofs.YtbibjcmfgpmddaaDoor.Ns
