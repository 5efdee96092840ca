/-
  The laws' helpers over lists of numbers: eqIntS, markIntS, heldIntS.
-/
import Derived.Test.YtianelbcjdbjkaaQtE
namespace Go.Proofs.Ytianelbcjdbjkaa.QtN
open Go.RowKit QtPl QtB QtIn QtC QtM QtR QtS QtE
set_option linter.unusedSimpArgs false
set_option linter.unusedVariables false

theorem own_rmo {w : World} {base c n : Nat} {A : Option Addr} {M : List Int} (h : w.ownsRow base 3 1 (.slice A n c) n (mc M)) : RdM w A M := by
  intro j m hm
  have hl := h.1
  rw [mc_len] at hl
  have hj := lt_of_some hm
  obtain ⟨g, cap, e, hb, hg⟩ := h.form (by omega)
  cases e
  exact ⟨g, rfl, hg, (World.ownsRow.cellAt h j (by omega)).trans (mc_at hm)⟩
theorem eqI (A B : Option Addr) (c d n : Nat) (M : List Int) (w : World) (h : RdM w A M) (h' : RdM w B M) (hn : M.length = n) (hm : n ≤ 1048576) :
    Calls Try.prog 15 #[.slice A n c, .slice B n d] w fun e w' => e = .returned (.bool true) ∧ Kp w w' := by
  have H := Lib.hid h
  have H' := Lib.hid h'
  have HN := Lib.hid hn
  clear h h' hn
  go_enter Try.func15, Try.ntmps15
  go_wp2_with fail
  go_loopw [5] (fun i wr => ∃ k : Nat, k ≤ n ∧ i = .int .i64 k ∧ Kp w wr) (fun i _ => n - (intOf i).toNat)
  case atStart => exact ⟨0, Nat.zero_le _, rfl, kre _⟩
  case round =>
    obtain ⟨k, hk, rfl, hb⟩ := hrel
    by_cases hlt : k < n
    · have hkx : k < M.length := by rw [HN.out]; exact hlt
      have hx? := List.getElem?_eq_getElem hkx
      obtain ⟨g, rfl, hg, c0⟩ := (H.out.kp hb) k M[k] hx?
      obtain ⟨g', rfl, hg', d0⟩ := (H'.out.kp hb) k M[k] hx?
      clear hx?
      generalize M[k] = x at *
      go_wp2_with fail
      go_quiet (fail)
      go_wp2_with fail
      go_roundw
      case rel => exact ⟨k + 1, by omega, by go_num, kdn hb _⟩
      case measure => (simp [intOf] <;> omega)
    · go_wp2_with fail
      go_ret
      exact ⟨rfl, hb⟩
/-- marks -/
def mkI (k0 n : Nat) : List Int := (List.range n).map fun j => ((k0 + j : Nat) : Int)
theorem mkI_len (k0 n : Nat) : (mkI k0 n).length = n := by simp [mkI]
theorem mkI_at {k0 n j : Nat} (h : j < n) : (mkI k0 n)[j]? = some ((k0 + j : Nat) : Int) := by
  unfold mkI
  rw [List.getElem?_map, List.getElem?_range h]
  rfl
theorem mkI_set {k0 n k : Nat} {L : List Int} (hl : L.length = n) (h : k < n) : (mkI k0 k ++ L.drop k).set k ((k0 + k : Nat) : Int) = mkI k0 (k + 1) ++ L.drop (k + 1) := by
  have hk : k < L.length := by omega
  rw [List.set_append_right _ _ (by rw [mkI_len]; exact Nat.le_refl _), mkI_len, Nat.sub_self, List.drop_eq_getElem_cons hk]
  unfold mkI
  rw [List.range_succ, List.map_append]
  simp
  rw [List.drop_eq_getElem_cons hk]
  rfl
set_option maxHeartbeats 1000000 in
theorem markI (base : Nat) (v : Value) (L : List Int) (k0 n : Nat) (w : World) (h : w.ownsRow base 3 1 v n (mc L)) (hn : L.length = n) (hl : k0 + n ≤ 4194304) :
    Calls Try.prog 16 #[v, .int .i64 k0] w fun e w' => e = .returned (.int .i64 ((k0 + n : Nat) : Int)) ∧ w'.ownsRow base 3 1 v n (mc (mkI k0 n)) ∧ w.grownBy w' v.ownBlock := by
  rcases h.2 with ⟨rfl, rfl⟩ | ⟨g, cap, cur, rfl, hrest⟩
  · obtain rfl : L = [] := List.eq_nil_of_length_eq_zero hn
    go_enter Try.func16, Try.ntmps16
    go_wp2_with fail
    go_loop [1, 5] (fun m i => m = .int .i64 k0 ∧ i = .int .i64 0) (fun _ _ => 0)
    case atStart => exact ⟨rfl, rfl⟩
    case round =>
      obtain ⟨rfl, rfl⟩ := hrel
      go_wp2_with fail
      go_ret
      exact ⟨by simp, h, World.grownBy.refl _ _⟩
  · have HN := Lib.hid hn
    have H0 := Lib.hid h
    clear hrest
    clear h hn
    go_enter Try.func16, Try.ntmps16
    go_wp2_with fail
    go_loopw [1, 5] (fun m i wr => ∃ k : Nat, k ≤ n ∧ i = .int .i64 k ∧ m = .int .i64 ((k0 + k : Nat) : Int) ∧ Hid (wr.ownsRow base 3 1 (.slice (some ⟨g, 0, none⟩) n cap) n (mc (mkI k0 k ++ L.drop k))) ∧ Hid (w.grownBy wr (some g))) (fun _ i _ => n - (intOf i).toNat)
    case atStart => exact ⟨0, Nat.zero_le _, rfl, rfl, Lib.hid (by simpa [mkI] using H0.out), Lib.hid (World.grownBy.refl _ _)⟩
    case round =>
      obtain ⟨k, hk, rfl, rfl, HO, HG⟩ := hrel
      by_cases hlt : k < n
      · have hlen : (mkI k0 k ++ L.drop k).length = n := by rw [List.length_append, mkI_len, List.length_drop, HN.out]; omega
        have hc := World.ownsRow.cellAt HO.out k (by omega)
        have hz := World.ownsRow.frozenAt HO.out k
        obtain ⟨u, hu⟩ : ∃ u, (mc (mkI k0 k ++ L.drop k))[k]? = some u := ⟨_, List.getElem?_eq_getElem (by rw [mc_len]; omega)⟩
        rw [hu] at hc
        have HO2 := Lib.hid (HO.out.stored k (.int .i64 ((k0 + k : Nat) : Int))).1
        rw [mc_set, mkI_set HN.out hlt] at HO2
        have HG2 : Hid (w.grownBy (wr.setCell ⟨g, k, none⟩ (.int .i64 ((k0 + k : Nat) : Int))) (some g)) := Lib.hid ⟨HG.out.os, HG.out.tape, HG.out.output, by rw [Go.Deep.nblk_setCell]; exact HG.out.size, fun j hj hne => by
          rw [Go.Deep.blk_setCell_other _ _ _ _ (fun e => hne (by rw [e]))]
          exact HG.out.block j hj hne⟩
        have hcast : ((k0 + k : Nat) : Int) = (k0 : Int) + (k : Int) := by omega
        obtain ⟨t, ht⟩ : ∃ t, k0 + k = t := ⟨_, rfl⟩
        rw [ht] at HO2 HG2
        have ht2 : t ≤ 4194304 := by omega
        simp only [ht]
        clear hu hlen hcast
        go_wp2_with fail
        go_roundw
        case rel => exact ⟨k + 1, by omega, by go_num, by rw [show k0 + (k + 1) = t + 1 by omega]; go_num, HO2, HG2⟩
        case measure => (simp [intOf] <;> omega)
      · obtain rfl : k = n := by omega
        have HE : Hid (mkI k0 k ++ L.drop k = mkI k0 k) := Lib.hid (by rw [List.drop_eq_nil_of_le (by rw [HN.out]; exact Nat.le_refl _), List.append_nil])
        go_wp2_with fail
        go_ret
        exact ⟨rfl, by rw [← HE.out]; exact HO.out, HG.out⟩
set_option maxHeartbeats 1000000 in
theorem heldI (A : Option Addr) (c k0 n : Nat) (w : World) (h : RdM w A (mkI k0 n)) (hl : k0 + n ≤ 4194304) :
    Calls Try.prog 17 #[.slice A n c, .int .i64 k0] w fun e w' => e = .returned (.int .i64 ((k0 + n : Nat) : Int)) ∧ Kp w w' := by
  have H := Lib.hid h
  clear h
  go_enter Try.func17, Try.ntmps17
  go_wp2_with fail
  go_loopw [1, 5] (fun m i wr => ∃ k : Nat, k ≤ n ∧ i = .int .i64 k ∧ m = .int .i64 ((k0 + k : Nat) : Int) ∧ Kp w wr) (fun _ i _ => n - (intOf i).toNat)
  case atStart => exact ⟨0, Nat.zero_le _, rfl, rfl, kre _⟩
  case round =>
    obtain ⟨k, hk, rfl, rfl, hb⟩ := hrel
    by_cases hlt : k < n
    · obtain ⟨g, rfl, hg, c0⟩ := (H.out.kp hb) k _ (mkI_at hlt)
      obtain ⟨t, ht⟩ : ∃ t, k0 + k = t := ⟨_, rfl⟩
      rw [ht] at c0
      simp only [ht]
      have ht2 : t ≤ 4194304 := by omega
      go_wp2_with fail
      go_roundw
      case rel => exact ⟨k + 1, by omega, by go_num, by rw [show k0 + (k + 1) = t + 1 by omega]; go_num, hb⟩
      case measure => (simp [intOf] <;> omega)
    · obtain rfl : k = n := by omega
      go_wp2_with fail
      go_ret
      exact ⟨rfl, hb⟩
end Go.Proofs.Ytianelbcjdbjkaa.QtN
