/-
  Contracts of spec.l1Read, spec.ParseInt and impl.ParseInt.
-/
import Derived.Test.YtiekplndcpcdkaaDoorNumF
import Derived.Test.YtiekplndcpcdkaaDoorRows
import Derived.Test.YtiekplndcpcdkaaDoorPlain
import Derived.Test.YtiekplndcpcdkaaDoorReadPl
import Derived.Test.YtiekplndcpcdkaaDoorNum
import Derived.Test.YtiekplndcpcdkaaDoorAtoi
import Derived.Test.YtiekplndcpcdkaaDoorShelf
import Derived.WalkKit
import Derived.WalkSmall
import Derived.LoopTactic
import Derived.Lib.Hide
namespace Go.Proofs.YtiekplndcpcdkaaDoor.Read
open Go.RowKit Pl Num ReadPl

def InR (n : Int) : Prop := -999999 ≤ n ∧ n ≤ 999999
/-- v is the answer of ParseInt at s -/
def ParIs (s : ByteArray) (v : Value) : Prop :=
  (∃ n, InR n ∧ s = ba (Lib.itoa n) ∧ v = .tuple #[.int .i64 n, .bool true]) ∨ ((∀ n, InR n → s ≠ ba (Lib.itoa n)) ∧ v = .tuple #[.int .i64 0, .bool false])
theorem ParIs.uniq {s : ByteArray} {v v' : Value} (h : ParIs s v) (h' : ParIs s v') : v = v' := by
  rcases h with ⟨n, hn, hs, rfl⟩ | ⟨hno, rfl⟩ <;> rcases h' with ⟨n', hn', hs', rfl⟩ | ⟨hno', rfl⟩
  · rw [hs] at hs'
    rw [itoa_inj (ba_inj hs')]
  · exact absurd hs (hno' n hn)
  · exact absurd hs' (hno n' hn')
  · rfl
theorem ParIs.form {s : ByteArray} {v : Value} (h : ParIs s v) : ∃ n r, v = .tuple #[.int .i64 n, .bool r] := by
  rcases h with ⟨n, _, _, rfl⟩ | ⟨_, rfl⟩ <;> exact ⟨_, _, rfl⟩

theorem no_of_atoi {s : ByteArray} (h : ∀ v, Lib.atoiAll s.data.toList ≠ .ok v) : ∀ n, InR n → s ≠ ba (Lib.itoa n) := by
  intro n hn e
  refine h n ?_
  rw [e, toList_ba]
  exact atoi_itoa n hn
theorem eq_of_atoi {s : ByteArray} {v : Int} (h : Lib.atoiAll s.data.toList = .ok v) : ∀ n, InR n → s = ba (Lib.itoa n) → n = v := by
  intro n hn e
  rw [e, toList_ba, atoi_itoa n hn] at h
  injection h

set_option maxHeartbeats 1000000 in
theorem implParse (s : ByteArray) (w : World) (hs : s.size ≤ 1048576) (ht : Tab w) (he : Errs w) :
    Calls Tryd.prog 28 #[.string s] w fun e w' => ∃ v, ParIs s v ∧ e = .returned v ∧ Below w.heap.size w w' := by
  have HT := Lib.hid ht
  have HA := Lib.hid (atoi_any s w hs he)
  clear ht he
  go_enter Tryd.func28, Tryd.ntmps28
  go_wp2_with fail
  refine HA.out.mono ?_
  rintro e w1 ⟨(⟨v, hv, rfl⟩ | ⟨hno, r, N, rfl⟩), b1⟩
  · have HV := Lib.hid hv
    have HT1 := Lib.hid (HT.out.below b1)
    clear hv
    by_cases hr : -999999 ≤ v ∧ v ≤ 999999
    · have HF : Hid (fmtV v = .tuple #[.string (ba (Lib.itoa v)), .bool true]) := Lib.hid (if_pos hr)
      have HR := Lib.hid hr
      clear hr
      have HI := Lib.hid (implFormat v w1 HT1.out)
      rw [HF.out] at HI
      by_cases heq : ba (Lib.itoa v) = s
      · have HP : Hid (ParIs s (.tuple #[.int .i64 v, .bool true])) := Lib.hid (.inl ⟨v, HR.out, heq.symm, rfl⟩)
        rw [heq] at HI
        clear heq
        go_wp2_with fail
        refine HI.out.mono ?_
        rintro e w2 ⟨rfl, b2⟩
        go_wp2_with fail
        go_ret2
        exact ⟨_, HP.out, rfl, b1.trans (b2.mono b1.size)⟩
      · have HP : Hid (ParIs s (.tuple #[.int .i64 0, .bool false])) := Lib.hid (.inr ⟨fun n hn e => heq (by rw [← eq_of_atoi HV.out n hn e]; exact e.symm), rfl⟩)
        have hne := ne_forms heq
        clear heq
        generalize ba (Lib.itoa v) = x at *
        go_wp2_with fail
        refine HI.out.mono ?_
        rintro e w2 ⟨rfl, b2⟩
        go_wp2_with fail
        go_ret2
        exact ⟨_, HP.out, rfl, b1.trans (b2.mono b1.size)⟩
    · have HF : Hid (fmtV v = .tuple #[.string ⟨#[]⟩, .bool false]) := Lib.hid (if_neg hr)
      have HP : Hid (ParIs s (.tuple #[.int .i64 0, .bool false])) := Lib.hid (.inr ⟨fun n hn e => hr (by rw [← eq_of_atoi HV.out n hn e]; exact hn), rfl⟩)
      clear hr
      have HI := Lib.hid (implFormat v w1 HT1.out)
      rw [HF.out] at HI
      go_wp2_with fail
      refine HI.out.mono ?_
      rintro e w2 ⟨rfl, b2⟩
      go_wp2_with fail
      go_ret2
      exact ⟨_, HP.out, rfl, b1.trans (b2.mono b1.size)⟩
  · have HP : Hid (ParIs s (.tuple #[.int .i64 0, .bool false])) := Lib.hid (.inr ⟨no_of_atoi hno, rfl⟩)
    clear hno
    go_wp2_with fail
    go_ret2
    exact ⟨_, HP.out, rfl, b1⟩

/-- what the code calls the digits: behind the sign -/
theorem tl_neg {s : ByteArray} {t : List UInt8} (hs : s.data.toList = 45 :: t) {m : Int} (h : s = ba (Lib.itoa m)) : m < 0 ∧ t = Lib.decDigits m.natAbs := by
  rw [h, toList_ba] at hs
  rcases itoa_cases m with ⟨hm, e⟩ | ⟨hm, e⟩
  · rw [e] at hs
    exact absurd (by rw [hs]; rfl) (dec_head m.toNat)
  · rw [e] at hs
    injection hs with _ hs
    exact ⟨hm, hs.symm⟩
theorem tl_pos {s : ByteArray} (hs : ∀ t, t ≠ [] → s.data.toList ≠ 45 :: t) {m : Int} (h : s = ba (Lib.itoa m)) : 0 ≤ m ∧ s.data.toList = Lib.decDigits m.toNat := by
  rcases itoa_cases m with ⟨hm, e⟩ | ⟨hm, e⟩
  · exact ⟨hm, by rw [h, toList_ba, e]⟩
  · exact absurd (by rw [h, toList_ba, e]) (hs _ (dec_ne m.natAbs))
theorem dec_facts {u : Nat} (h : u ≤ 999999) {t : List UInt8} (e : t = Lib.decDigits u) : 1 ≤ t.length ∧ t.length ≤ 6 ∧ (∀ c ∈ t, isD c) ∧ dval t = u := by
  subst e
  exact ⟨dec_pos u, dec_six h, dec_digs u, dec_val u⟩
def No (s : ByteArray) : Prop := ∀ n, InR n → s ≠ ba (Lib.itoa n)
/-- t is what stands behind the sign, neg says whether there was one -/
def Tl (s : ByteArray) (t : List UInt8) (neg : Bool) : Prop := ∀ m, InR m → s = ba (Lib.itoa m) → ∃ u : Nat, u ≤ 999999 ∧ t = Lib.decDigits u ∧ m = if neg then -(u : Int) else (u : Int)
theorem Tl.no_len {s : ByteArray} {t : List UInt8} {neg : Bool} (h : Tl s t neg) (hl : t.length < 1 ∨ 6 < t.length) : No s := by
  intro m hm e
  obtain ⟨u, hu, ht, _⟩ := h m hm e
  have := dec_facts hu ht
  omega
theorem Tl.no_dig {s : ByteArray} {t : List UInt8} {neg : Bool} (h : Tl s t neg) {c : UInt8} (hc : c ∈ t) (hd : ¬ isD c) : No s := by
  intro m hm e
  obtain ⟨u, hu, ht, _⟩ := h m hm e
  exact hd ((dec_facts hu ht).2.2.1 c hc)
theorem Tl.no_ne {s : ByteArray} {t : List UInt8} {neg : Bool} (h : Tl s t neg) (hne : ba (Lib.itoa (if neg then -(dval t : Int) else (dval t : Int))) ≠ s) : No s := by
  intro m hm e
  obtain ⟨u, hu, ht, hmu⟩ := h m hm e
  refine hne ?_
  rw [(dec_facts hu ht).2.2.2, ← hmu]
  exact e.symm
theorem six_lt {t : List UInt8} (h : ∀ c ∈ t, isD c) (hl : t.length ≤ 6) : dval t ≤ 999999 := by
  have h1 := dval_lt t h
  have h2 : 10 ^ t.length ≤ 10 ^ 6 := Nat.pow_le_pow_right (by omega) hl
  have h3 : (10 : Nat) ^ 6 = 1000000 := by decide
  omega
theorem ParIs.no {s : ByteArray} (h : No s) : ParIs s (.tuple #[.int .i64 0, .bool false]) := .inr ⟨h, rfl⟩
theorem conv48 (x : Int) (h0 : 48 ≤ x) (h1 : x ≤ 57) : IntKind.u8.wrap (x - 48) = x - 48 := by
  simp [IntKind.wrap, IntKind.signed, IntKind.bits]; omega
set_option maxHeartbeats 1000000 in
theorem read_neg (s : ByteArray) (t : ByteArray) (w : World) (hs : s.size ≤ 1048576) (h1 : 1 < s.size) (h45 : ((s[0].toNat : Int) == 45) = true) (hcut : s.extract 1 s.size = t) (htz : t.size + 1 = s.size) (htl : Tl s t.data.toList true) :
    Calls Tryd.prog 16 #[.string s] w fun e w' => ∃ v, ParIs s v ∧ e = .returned v ∧ ∃ q, w' = w.drewN q := by
  have HTl := Lib.hid htl
  clear htl
  have htlt : t.size < s.size := by omega
  have HZ := Lib.hid htz
  clear htz
  have hd1 : decide (1 < (s.size : Int)) = true := by simp; omega
  by_cases hl1 : t.size < 1 ∨ 6 < t.size
  · have HP := Lib.hid (ParIs.no (HTl.out.no_len (by rw [len_size]; exact hl1)))
    have HI := Lib.hid (fun w => l1In_any (t.size : Int) 1 6 false w (by simp; omega))
    clear hl1
    go_enter Tryd.func16, Tryd.ntmps16
    go_wp2_with fail
    refine (HI.out _).mono ?_
    rintro e w' ⟨rfl, rfl⟩
    go_wp2_with fail
    go_ret2
    exact ⟨_, HP.out, rfl, 0, rfl⟩
  · have HI := Lib.hid (fun w => l1In_any (t.size : Int) 1 6 true w (by simp; omega))
    have hz1 : 1 ≤ t.size := by omega
    have hz6 : t.size ≤ 6 := by omega
    clear hl1
    go_enter Tryd.func16, Tryd.ntmps16
    go_wp2_with fail
    refine (HI.out _).mono ?_
    rintro e w' ⟨rfl, rfl⟩
    go_wp2_with fail
    go_loop [5, 6] (fun n i => ∃ k : Nat, k ≤ t.size ∧ i = .int .i64 k ∧ n = .int .i64 (dval (t.data.toList.take k)) ∧ dval (t.data.toList.take k) ≤ 999999 ∧ Hid (∀ c ∈ t.data.toList.take k, isD c)) (fun _ i => t.size - (intOf i).toNat)
    case atStart => exact ⟨0, Nat.zero_le _, rfl, by simp [dval], by simp [dval], Lib.hid (by simp)⟩
    case round =>
      obtain ⟨k, hk, rfl, rfl, hdv, HD⟩ := hrel
      by_cases hlt : k < t.size
      · have HT := Lib.hid (take_snoc t k hlt)
        have HS := Lib.hid (dval_snoc (t.data.toList.take k) t[k])
        have HM : Hid (t[k] ∈ t.data.toList) := Lib.hid (Array.mem_toList_iff.2 (Array.getElem_mem (xs := t.data) hlt))
        have hcl := t[k].toNat_lt
        by_cases hdig : isD t[k]
        · have HDn : Hid (∀ c ∈ t.data.toList.take (k + 1), isD c) := Lib.hid (by
            intro c hc
            rw [HT.out] at hc
            rcases List.mem_append.1 hc with hc | hc
            · exact HD.out c hc
            · simp only [List.mem_singleton] at hc; subst hc; exact hdig)
          have hlen := six_lt HDn.out (by rw [Pl.take_len t (k + 1) (by omega)]; omega)
          have HLn := Lib.hid hlen
          clear hlen
          obtain ⟨hd0, hd9⟩ := hdig
          have hb1 : decide ((t[k].toNat : Int) < 48) = false := by simp; omega
          have hb2 : decide (57 < (t[k].toNat : Int)) = false := by simp; omega
          have hcv := conv48 (t[k].toNat : Int) (by omega) (by omega)
          generalize dval (t.data.toList.take k) = dv at *
          go_wp2_with fail
          go_round
          case rel => exact ⟨k + 1, by omega, by go_num, by rw [HT.out, HS.out]; go_num, HLn.out, HDn⟩
          case measure => simp [intOf]; omega
        · have HP := Lib.hid (ParIs.no (HTl.out.no_dig HM.out hdig))
          by_cases hlow : t[k].toNat < 48
          · have hb1 : decide ((t[k].toNat : Int) < 48) = true := by simp; omega
            clear hdig
            go_wp2_with fail
            go_ret2
            exact ⟨_, HP.out, rfl, 0, rfl⟩
          · have hb1 : decide ((t[k].toNat : Int) < 48) = false := by simp; omega
            have hb2 : decide (57 < (t[k].toNat : Int)) = true := by simp; unfold isD at hdig; omega
            clear hdig
            go_wp2_with fail
            go_ret2
            exact ⟨_, HP.out, rfl, 0, rfl⟩
      · have hall : t.data.toList.take k = t.data.toList := take_all t k (by omega)
        rw [hall] at hdv
        rw [hall]
        have HNum := Lib.hid (fun w => l1Num_any (-(dval t.data.toList : Int)) w (by omega) (by omega))
        have HR : Hid (InR (-(dval t.data.toList : Int))) := Lib.hid ⟨by omega, by omega⟩
        by_cases heq : ba (Lib.itoa (-(dval t.data.toList : Int))) = s
        · have HP : Hid (ParIs s (.tuple #[.int .i64 (-(dval t.data.toList : Int)), .bool true])) := Lib.hid (.inl ⟨_, HR.out, heq.symm, rfl⟩)
          rw [heq] at HNum
          clear heq hall HD HR
          generalize dval t.data.toList = dv at *
          go_wp2_with fail
          refine (HNum.out _).mono ?_
          rintro e w' ⟨rfl, q, rfl⟩
          go_wp2_with fail
          go_ret2
          exact ⟨_, HP.out, rfl, q, rfl⟩
        · have HP := Lib.hid (ParIs.no (HTl.out.no_ne heq))
          have hne := ne_forms heq
          clear heq hall HD HR
          generalize ba (Lib.itoa (-(dval t.data.toList : Int))) = x at *
          generalize dval t.data.toList = dv at *
          go_wp2_with fail
          refine (HNum.out _).mono ?_
          rintro e w' ⟨rfl, q, rfl⟩
          go_wp2_with fail
          go_ret2
          exact ⟨_, HP.out, rfl, q, rfl⟩

set_option maxHeartbeats 1000000 in
theorem read_pos (s : ByteArray) (w : World) (hs : s.size ≤ 1048576) (hsign : (1 < s.size ∧ ∃ h : 0 < s.size, ((s[0].toNat : Int) == 45) = false) ∨ s.size ≤ 1) (htl : Tl s s.data.toList false) :
    Calls Tryd.prog 16 #[.string s] w fun e w' => ∃ v, ParIs s v ∧ e = .returned v ∧ ∃ q, w' = w.drewN q := by
  have HTl := Lib.hid htl
  clear htl
  rcases hsign with ⟨h1, hp, h45⟩ | h1
  · have hd1 : decide (1 < (s.size : Int)) = true := by simp; omega
    by_cases hl1 : s.size < 1 ∨ 6 < s.size
    · have HP := Lib.hid (ParIs.no (HTl.out.no_len (by rw [len_size]; exact hl1)))
      have HI := Lib.hid (fun w => l1In_any (s.size : Int) 1 6 false w (by simp; omega))
      clear hl1
      go_enter Tryd.func16, Tryd.ntmps16
      go_wp2_with fail
      refine (HI.out _).mono ?_
      rintro e w' ⟨rfl, rfl⟩
      go_wp2_with fail
      go_ret2
      exact ⟨_, HP.out, rfl, 0, rfl⟩
    · have HI := Lib.hid (fun w => l1In_any (s.size : Int) 1 6 true w (by simp; omega))
      have hz1 : 1 ≤ s.size := by omega
      have hz6 : s.size ≤ 6 := by omega
      clear hl1
      go_enter Tryd.func16, Tryd.ntmps16
      go_wp2_with fail
      refine (HI.out _).mono ?_
      rintro e w' ⟨rfl, rfl⟩
      go_wp2_with fail
      go_loop [5, 6] (fun n i => ∃ k : Nat, k ≤ s.size ∧ i = .int .i64 k ∧ n = .int .i64 (dval (s.data.toList.take k)) ∧ dval (s.data.toList.take k) ≤ 999999 ∧ Hid (∀ c ∈ s.data.toList.take k, isD c)) (fun _ i => s.size - (intOf i).toNat)
      case atStart => exact ⟨0, Nat.zero_le _, rfl, by simp [dval], by simp [dval], Lib.hid (by simp)⟩
      case round =>
        obtain ⟨k, hk, rfl, rfl, hdv, HD⟩ := hrel
        by_cases hlt : k < s.size
        · have HT := Lib.hid (take_snoc s k hlt)
          have HS := Lib.hid (dval_snoc (s.data.toList.take k) s[k])
          have HM : Hid (s[k] ∈ s.data.toList) := Lib.hid (Array.mem_toList_iff.2 (Array.getElem_mem (xs := s.data) hlt))
          have hcl := s[k].toNat_lt
          by_cases hdig : isD s[k]
          · have HDn : Hid (∀ c ∈ s.data.toList.take (k + 1), isD c) := Lib.hid (by
              intro c hc
              rw [HT.out] at hc
              rcases List.mem_append.1 hc with hc | hc
              · exact HD.out c hc
              · simp only [List.mem_singleton] at hc; subst hc; exact hdig)
            have hlen := six_lt HDn.out (by rw [Pl.take_len s (k + 1) (by omega)]; omega)
            have HLn := Lib.hid hlen
            clear hlen
            obtain ⟨hd0, hd9⟩ := hdig
            have hb1 : decide ((s[k].toNat : Int) < 48) = false := by simp; omega
            have hb2 : decide (57 < (s[k].toNat : Int)) = false := by simp; omega
            have hcv := conv48 (s[k].toNat : Int) (by omega) (by omega)
            generalize dval (s.data.toList.take k) = dv at *
            go_wp2_with fail
            go_round
            case rel => exact ⟨k + 1, by omega, by go_num, by rw [HT.out, HS.out]; go_num, HLn.out, HDn⟩
            case measure => simp [intOf]; omega
          · have HP := Lib.hid (ParIs.no (HTl.out.no_dig HM.out hdig))
            by_cases hlow : s[k].toNat < 48
            · have hb1 : decide ((s[k].toNat : Int) < 48) = true := by simp; omega
              clear hdig
              go_wp2_with fail
              go_ret2
              exact ⟨_, HP.out, rfl, 0, rfl⟩
            · have hb1 : decide ((s[k].toNat : Int) < 48) = false := by simp; omega
              have hb2 : decide (57 < (s[k].toNat : Int)) = true := by simp; unfold isD at hdig; omega
              clear hdig
              go_wp2_with fail
              go_ret2
              exact ⟨_, HP.out, rfl, 0, rfl⟩
        · have hall : s.data.toList.take k = s.data.toList := take_all s k (by omega)
          rw [hall] at hdv
          rw [hall]
          have HNum := Lib.hid (fun w => l1Num_any (dval s.data.toList : Int) w (by omega) (by omega))
          have HR : Hid (InR (dval s.data.toList : Int)) := Lib.hid ⟨by omega, by omega⟩
          by_cases heq : ba (Lib.itoa (dval s.data.toList : Int)) = s
          · have HP : Hid (ParIs s (.tuple #[.int .i64 (dval s.data.toList : Int), .bool true])) := Lib.hid (.inl ⟨_, HR.out, heq.symm, rfl⟩)
            rw [heq] at HNum
            clear heq hall HD HR
            generalize dval s.data.toList = dv at *
            go_wp2_with fail
            refine (HNum.out _).mono ?_
            rintro e w' ⟨rfl, q, rfl⟩
            go_wp2_with fail
            go_ret2
            exact ⟨_, HP.out, rfl, q, rfl⟩
          · have HP := Lib.hid (ParIs.no (HTl.out.no_ne heq))
            have hne := ne_forms heq
            clear heq hall HD HR
            generalize ba (Lib.itoa (dval s.data.toList : Int)) = x at *
            generalize dval s.data.toList = dv at *
            go_wp2_with fail
            refine (HNum.out _).mono ?_
            rintro e w' ⟨rfl, q, rfl⟩
            go_wp2_with fail
            go_ret2
            exact ⟨_, HP.out, rfl, q, rfl⟩
  · have hd1 : decide (1 < (s.size : Int)) = false := by simp; omega
    by_cases hl1 : s.size < 1 ∨ 6 < s.size
    · have HP := Lib.hid (ParIs.no (HTl.out.no_len (by rw [len_size]; exact hl1)))
      have HI := Lib.hid (fun w => l1In_any (s.size : Int) 1 6 false w (by simp; omega))
      clear hl1
      go_enter Tryd.func16, Tryd.ntmps16
      go_wp2_with fail
      refine (HI.out _).mono ?_
      rintro e w' ⟨rfl, rfl⟩
      go_wp2_with fail
      go_ret2
      exact ⟨_, HP.out, rfl, 0, rfl⟩
    · have HI := Lib.hid (fun w => l1In_any (s.size : Int) 1 6 true w (by simp; omega))
      have hz1 : 1 ≤ s.size := by omega
      have hz6 : s.size ≤ 6 := by omega
      clear hl1
      go_enter Tryd.func16, Tryd.ntmps16
      go_wp2_with fail
      refine (HI.out _).mono ?_
      rintro e w' ⟨rfl, rfl⟩
      go_wp2_with fail
      go_loop [5, 6] (fun n i => ∃ k : Nat, k ≤ s.size ∧ i = .int .i64 k ∧ n = .int .i64 (dval (s.data.toList.take k)) ∧ dval (s.data.toList.take k) ≤ 999999 ∧ Hid (∀ c ∈ s.data.toList.take k, isD c)) (fun _ i => s.size - (intOf i).toNat)
      case atStart => exact ⟨0, Nat.zero_le _, rfl, by simp [dval], by simp [dval], Lib.hid (by simp)⟩
      case round =>
        obtain ⟨k, hk, rfl, rfl, hdv, HD⟩ := hrel
        by_cases hlt : k < s.size
        · have HT := Lib.hid (take_snoc s k hlt)
          have HS := Lib.hid (dval_snoc (s.data.toList.take k) s[k])
          have HM : Hid (s[k] ∈ s.data.toList) := Lib.hid (Array.mem_toList_iff.2 (Array.getElem_mem (xs := s.data) hlt))
          have hcl := s[k].toNat_lt
          by_cases hdig : isD s[k]
          · have HDn : Hid (∀ c ∈ s.data.toList.take (k + 1), isD c) := Lib.hid (by
              intro c hc
              rw [HT.out] at hc
              rcases List.mem_append.1 hc with hc | hc
              · exact HD.out c hc
              · simp only [List.mem_singleton] at hc; subst hc; exact hdig)
            have hlen := six_lt HDn.out (by rw [Pl.take_len s (k + 1) (by omega)]; omega)
            have HLn := Lib.hid hlen
            clear hlen
            obtain ⟨hd0, hd9⟩ := hdig
            have hb1 : decide ((s[k].toNat : Int) < 48) = false := by simp; omega
            have hb2 : decide (57 < (s[k].toNat : Int)) = false := by simp; omega
            have hcv := conv48 (s[k].toNat : Int) (by omega) (by omega)
            generalize dval (s.data.toList.take k) = dv at *
            go_wp2_with fail
            go_round
            case rel => exact ⟨k + 1, by omega, by go_num, by rw [HT.out, HS.out]; go_num, HLn.out, HDn⟩
            case measure => simp [intOf]; omega
          · have HP := Lib.hid (ParIs.no (HTl.out.no_dig HM.out hdig))
            by_cases hlow : s[k].toNat < 48
            · have hb1 : decide ((s[k].toNat : Int) < 48) = true := by simp; omega
              clear hdig
              go_wp2_with fail
              go_ret2
              exact ⟨_, HP.out, rfl, 0, rfl⟩
            · have hb1 : decide ((s[k].toNat : Int) < 48) = false := by simp; omega
              have hb2 : decide (57 < (s[k].toNat : Int)) = true := by simp; unfold isD at hdig; omega
              clear hdig
              go_wp2_with fail
              go_ret2
              exact ⟨_, HP.out, rfl, 0, rfl⟩
        · have hall : s.data.toList.take k = s.data.toList := take_all s k (by omega)
          rw [hall] at hdv
          rw [hall]
          have HNum := Lib.hid (fun w => l1Num_any (dval s.data.toList : Int) w (by omega) (by omega))
          have HR : Hid (InR (dval s.data.toList : Int)) := Lib.hid ⟨by omega, by omega⟩
          by_cases heq : ba (Lib.itoa (dval s.data.toList : Int)) = s
          · have HP : Hid (ParIs s (.tuple #[.int .i64 (dval s.data.toList : Int), .bool true])) := Lib.hid (.inl ⟨_, HR.out, heq.symm, rfl⟩)
            rw [heq] at HNum
            clear heq hall HD HR
            generalize dval s.data.toList = dv at *
            go_wp2_with fail
            refine (HNum.out _).mono ?_
            rintro e w' ⟨rfl, q, rfl⟩
            go_wp2_with fail
            go_ret2
            exact ⟨_, HP.out, rfl, q, rfl⟩
          · have HP := Lib.hid (ParIs.no (HTl.out.no_ne heq))
            have hne := ne_forms heq
            clear heq hall HD HR
            generalize ba (Lib.itoa (dval s.data.toList : Int)) = x at *
            generalize dval s.data.toList = dv at *
            go_wp2_with fail
            refine (HNum.out _).mono ?_
            rintro e w' ⟨rfl, q, rfl⟩
            go_wp2_with fail
            go_ret2
            exact ⟨_, HP.out, rfl, q, rfl⟩

theorem read_any (s : ByteArray) (w : World) (hs : s.size ≤ 1048576) :
    Calls Tryd.prog 16 #[.string s] w fun e w' => ∃ v, ParIs s v ∧ e = .returned v ∧ ∃ q, w' = w.drewN q := by
  have hz := len_size s
  cases hl : s.data.toList with
  | nil =>
    rw [hl] at hz
    simp at hz
    refine read_pos s w hs (.inr (by omega)) ?_
    rw [hl]
    intro m hm e
    obtain ⟨h0, h1⟩ := tl_pos (s := s) (fun t _ h => by rw [hl] at h; cases h) e
    exact ⟨m.toNat, by unfold InR at hm; omega, by rw [← h1, hl], by simp; omega⟩
  | cons c l =>
    rw [hl] at hz
    simp at hz
    have h0 : 0 < s.size := by omega
    have hc : s[0] = c := by
      have : s.data.toList[0]? = some c := by rw [hl]; rfl
      rw [Array.getElem?_toList] at this
      exact (Array.getElem?_eq_some_iff.1 this).2
    by_cases hn : c = 45 ∧ l ≠ []
    · obtain ⟨rfl, hne⟩ := hn
      have hlp : 0 < l.length := List.length_pos_iff.2 hne
      refine read_neg s (ba l) w hs (by omega) (by rw [hc]; rfl) (extract1 s hl) (by rw [ba_size]; omega) ?_
      rw [toList_ba]
      intro m hm e
      obtain ⟨h0', h1⟩ := tl_neg hl e
      exact ⟨m.natAbs, by unfold InR at hm; omega, h1, by simp; omega⟩
    · have htl : Tl s s.data.toList false := by
        intro m hm e
        obtain ⟨h0', h1⟩ := tl_pos (s := s) (fun t ht h => by
          rw [hl] at h
          injection h with h1 h2
          exact hn ⟨h1, by rw [h2]; exact ht⟩) e
        exact ⟨m.toNat, by unfold InR at hm; omega, h1, by simp; omega⟩
      by_cases h1 : 1 < s.size
      · refine read_pos s w hs (.inl ⟨h1, h0, ?_⟩) htl
        rw [beq_eq_false_iff_ne, hc]
        intro h
        refine hn ⟨UInt8.toNat_inj.1 (show c.toNat = 45 by omega), fun h' => ?_⟩
        rw [h'] at hz
        simp at hz
        omega
      · exact read_pos s w hs (.inr (by omega)) htl

end Go.Proofs.YtiekplndcpcdkaaDoor.Read
