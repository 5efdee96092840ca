/-
  What VerifyChecksum answers at a sealed text and at one with a changed byte; a changed byte of a row; vAt at any world that only drew.
-/
import Derived.Test.YtfnkaoobnhjlbaaDoorVerify
import Derived.Test.YtfnkaoobnhjlbaaDoorRead
import Derived.Test.YtfnkaoobnhjlbaaDoorSealPl
import Derived.Test.YtfnkaoobnhjlbaaDoorRowB
import Derived.Test.YtfnkaoobnhjlbaaDoorDraw2
import Derived.Deep.RegionHeld3
namespace Go.Proofs.YtfnkaoobnhjlbaaDoor.StrF
set_option linter.ambiguousOpen false
set_option linter.unusedVariables false
open Go.RowKit Pl Stands SplitPl Num ReadPl Read Seal Verify SealPl RowB Cur Draw0 Draw2

theorem itoa_ck (l : List UInt8) : Lib.itoa (ckSum l) = digs l := by
  have h := (ckSum_bd l).1
  obtain ⟨n, hn⟩ := Int.eq_ofNat_of_zero_le h
  unfold digs
  rw [hn, itoa_nat]; rfl
theorem seal_list (x : ByteArray) : (sealB x).data.toList = sealL x.data.toList := by
  unfold sealB sealL
  rw [itoa_ck]
  simp [ba]
theorem ap_facts {x : ByteArray} (h : apB x = true) : x.size ≤ 4000 ∧ stB 35 x.data.toList = false ∧ (sealB x).size ≤ 4000 := by
  simp [apB] at h
  exact ⟨h.1.1, h.1.2, h.2⟩
theorem hd_seal {x : ByteArray} (h : apB x = true) : hdB (sealB x) = x := by
  unfold hdB
  rw [seal_list, sealL, hd_app (ap_facts h).2.1, ba_toList]
theorem vf_seal {x : ByteArray} (h : apB x = true) : vfV (sealB x) = .tuple #[.string x, .bool true] := by
  rw [vfV_yes ⟨(ap_facts h).2.2, by rw [hd_seal h]⟩, hd_seal h]
theorem vf_bad {x y : ByteArray} {k : Nat} {c' : UInt8} (h : apB x = true) (hk : k < (sealB x).data.toList.length) (hc : c' ≠ (sealB x).data.toList[k]) (hy : y.data.toList = (sealB x).data.toList.set k c') : vfV y = .tuple #[.string ⟨#[]⟩, .bool false] := by
  refine vfV_no ?_
  rintro ⟨_, he⟩
  have h1 : sealL (hdB y).data.toList = (sealL x.data.toList).set k c' := by rw [← seal_list, he, hy, seal_list]
  have h2 := one_same (k := k) (ap_facts h).2.1 (hdB_free y) (fun i hi => by rw [h1, List.getElem?_set_ne (Ne.symm hi)])
  rw [h1, ← seal_list] at h2
  have h3 : ((sealB x).data.toList.set k c')[k]? = some c' := by rw [List.getElem?_set_self hk]
  rw [h2, List.getElem?_eq_getElem hk] at h3
  exact hc (Option.some.inj h3).symm
theorem seal_pos (x : ByteArray) : 0 < (sealB x).size := by
  rw [← len_size, seal_list]; unfold sealL; simp; omega
theorem fmt_form (n : Int) : (fmtV n = .tuple #[.string (ba (Lib.itoa n)), .bool true] ∧ InR n) ∨ fmtV n = .tuple #[.string ⟨#[]⟩, .bool false] := by
  unfold fmtV
  by_cases h : -999999 ≤ n ∧ n ≤ 999999
  · rw [if_pos h]; exact .inl ⟨rfl, h⟩
  · rw [if_neg h]; exact .inr rfl
/-- the world has only drawn -/
def Drew (W w : World) : Prop := ∃ q, w = W.drewN q
theorem Drew.below {W w : World} (h : Drew W w) : Below W.heap.size W w := by obtain ⟨q, rfl⟩ := h; exact below_drewN (Below.refl _ _) q
theorem Drew.one (W : World) : Drew W W.drew := ⟨1, rfl⟩
theorem xor_u8 (c x : Nat) (hc : c < 256) (hx : x < 256) : bits .xor .u8 (c : Int) (x : Int) = ((c ^^^ x : Nat) : Int) := by
  have hb : c ^^^ x < 2 ^ 8 := Nat.xor_lt_two_pow (by omega) (by omega)
  have h1 : (BitVec.ofInt 8 (c : Int)).toNat = c := by
    rw [BitVec.ofInt_natCast, BitVec.toNat_ofNat]; exact Nat.mod_eq_of_lt (by omega)
  have h2 : (BitVec.ofInt 8 (x : Int)).toNat = x := by
    rw [BitVec.ofInt_natCast, BitVec.toNat_ofNat]; exact Nat.mod_eq_of_lt (by omega)
  show IntKind.u8.wrap ((BitVec.ofInt 8 (c : Int) ^^^ BitVec.ofInt 8 (x : Int)).toNat : Int) = _
  rw [BitVec.toNat_xor, h1, h2]
  simp only [IntKind.wrap, IntKind.signed, IntKind.bits]
  simp
  omega
theorem of_nat8 (m : Nat) (h : m < 256) : (UInt8.ofNat m).toNat = m := by simp; omega
/-- a byte that is changed is another one -/
theorem xor_ne (c : UInt8) (x : Nat) (h0 : 1 ≤ x) (h1 : x ≤ 255) : ∃ c' : UInt8, c' ≠ c ∧ bits .xor .u8 (c.toNat : Int) (x : Int) = (c'.toNat : Int) := by
  have hc := c.toNat_lt
  have hb : c.toNat ^^^ x < 2 ^ 8 := Nat.xor_lt_two_pow (by omega) (by omega)
  refine ⟨UInt8.ofNat (c.toNat ^^^ x), fun e => ?_, ?_⟩
  · have e2 := congrArg UInt8.toNat e
    have e3 : (UInt8.ofNat (c.toNat ^^^ x)).toNat = c.toNat ^^^ x := of_nat8 _ (by omega)
    rw [e3] at e2
    have : x = 0 := by
      have h := congrArg (fun z => c.toNat ^^^ z) e2
      simp only [← Nat.xor_assoc, Nat.xor_self, Nat.zero_xor] at h
      exact h
    omega
  · rw [xor_u8 _ _ (by omega) (by omega)]
    have e3 : (UInt8.ofNat (c.toNat ^^^ x)).toNat = c.toNat ^^^ x := of_nat8 _ (by omega)
    rw [e3]
theorem Drew.rdb {W w : World} {A : Option Addr} {n : Nat} (h : Drew W w) (hr : RdB W A n) : RdB w A n := by obtain ⟨q, rfl⟩ := h; exact hr
theorem set_size (y : ByteArray) (k : Nat) (c : UInt8) : (ByteArray.mk (y.data.toList.set k c).toArray).size = y.size := by
  show (y.data.toList.set k c).toArray.size = y.size
  rw [List.size_toArray, List.length_set, len_size]
theorem Drew.row {W w : World} {b : Nat} {l : List UInt8} (h : Drew W w) (hr : RowB W b l) : RowB w b l := by obtain ⟨q, rfl⟩ := h; exact hr
theorem changed {r : Int} (c : UInt8) (h0 : 0 ≤ r) (h1 : r ≤ 255) : ∃ c' : UInt8, c' ≠ c ∧ bits .xor .u8 (c.toNat : Int) (1 + r % 255) = (c'.toNat : Int) := by
  obtain ⟨x, hx⟩ := Int.eq_ofNat_of_zero_le (show 0 ≤ 1 + r % 255 by omega)
  rw [hx]
  exact xor_ne c x (by omega) (by omega)
/-- vAt is one number, in whatever world that only drew -/
theorem vAt_det (A : Option Addr) (n c i : Nat) (W : World) (hn : n ≤ 65536) (hi : i ≤ 1000) (hr : RdB W A n) :
    ∃ r : Int, 0 ≤ r ∧ r ≤ 255 ∧ ∀ w, Drew W w → Calls Tryd.prog 35 #[.slice A n c, .int .i64 i] w fun e w' => e = .returned (.int .i64 r) ∧ w' = w := by
  by_cases hlt : i < n
  · obtain ⟨gb, ob, z, rfl, hc, hz0, hz1⟩ := hr i hlt
    refine ⟨z, hz0, hz1, ?_⟩
    rintro w ⟨q, rfl⟩
    have hc' : (W.drewN q).cell? ⟨gb, ob + i, none⟩ = some (.int .u8 z) := hc
    generalize W.drewN q = w at *
    clear hc
    go_enter Tryd.func35, Tryd.ntmps35
    go_wp2_with fail
    go_ret
    exact ⟨rfl, rfl⟩
  · refine ⟨((i : Int) * 7 + n) % 256, by omega, by omega, fun w _ => ?_⟩
    clear hr
    go_enter Tryd.func35, Tryd.ntmps35
    go_wp2_with fail
    go_ret
    exact ⟨rfl, rfl⟩
end Go.Proofs.YtfnkaoobnhjlbaaDoor.StrF
