/-
  Contract of nodeText of the program.
-/
import Derived.Test.YtdjlcjmaikdeiaaDoorNdX1
import Derived.Test.YtdjlcjmaikdeiaaDoorNdX2
import Derived.Test.YtdjlcjmaikdeiaaDoorNdX3
import Derived.Test.YtdjlcjmaikdeiaaDoorNdX4
import Derived.Test.YtdjlcjmaikdeiaaDoorNdX5
import Derived.Test.YtdjlcjmaikdeiaaDoorNdX6
import Derived.Test.YtdjlcjmaikdeiaaDoorNdX7
import Derived.Test.YtdjlcjmaikdeiaaDoorNdX8
import Derived.Test.YtdjlcjmaikdeiaaDoorNdX9
namespace Go.Proofs.YtdjlcjmaikdeiaaDoor.Nd
open Go.RowKit NdPl Ns
set_option linter.unusedSimpArgs false
set_option linter.unusedVariables false

theorem nt_step (d : Nat) (ih : ∀ d', d = d' + 1 → NtT d') : NtT d := by
  intro x B c k w hr hz hok hT
  obtain ⟨op, wd, tx, af, ps⟩ := x
  simp only [op_mk, wd_mk, tx_mk, af_mk, ps_mk] at hr ⊢
  have hs : 1 ≤ op ∧ op ≤ 9 := by
    cases k with
    | zero => cases hok
    | succ k' =>
      have h : (shB op wd tx af ps.length && ps.all (okT k')) = true := hok
      rw [Bool.and_eq_true] at h
      have h1 := h.1
      unfold shB at h1
      repeat' split at h1
      all_goals first | omega | cases h1
  rcases (show op = 1 ∨ op = 2 ∨ op = 3 ∨ op = 4 ∨ op = 5 ∨ op = 6 ∨ op = 7 ∨ op = 8 ∨ op = 9 by omega) with rfl | rfl | rfl | rfl | rfl | rfl | rfl | rfl | rfl
  · exact nt_1 d ih wd tx af ps B c k w hr hz hok hT
  · exact nt_2 d ih wd tx af ps B c k w hr hz hok hT
  · exact nt_3 d ih wd tx af ps B c k w hr hz hok hT
  · exact nt_4 d ih wd tx af ps B c k w hr hz hok hT
  · exact nt_5 d ih wd tx af ps B c k w hr hz hok hT
  · exact nt_6 d ih wd tx af ps B c k w hr hz hok hT
  · exact nt_7 d ih wd tx af ps B c k w hr hz hok hT
  · exact nt_8 d ih wd tx af ps B c k w hr hz hok hT
  · exact nt_9 d ih wd tx af ps B c k w hr hz hok hT
theorem nt_all (d : Nat) : NtT d := by
  induction d with
  | zero => exact nt_step 0 (fun d' h => by omega)
  | succ d ih => exact nt_step (d + 1) (fun d' h => by have e : d' = d := (by omega); subst e; exact ih)
end Go.Proofs.YtdjlcjmaikdeiaaDoor.Nd
