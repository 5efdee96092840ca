/-
  Contracts of impl.JoinStrings and spec.JoinStrings.
-/
import Derived.Test.YtbfnfhaefhklaaaRows
import Derived.Test.YtbfnfhaefhklaaaPlain
import Derived.Test.YtbfnfhaefhklaaaStrs
import Derived.Test.YtbfnfhaefhklaaaHelp
import Derived.Test.YtbfnfhaefhklaaaJoinPl
import Derived.Test.YtbfnfhaefhklaaaShelf
import Derived.WalkKit
import Derived.LoopTactic
import Derived.Lib.Hide
import Derived.Deep.QuietTactic
import Derived.BigQuiet
namespace Go.Proofs.Ytbfnfhaefhklaaa.Join
open Go.RowKit Pl Strs Help JoinPl

/-- what JoinStrings answers for a separator of one byte -/
def jV (b : UInt8) (xs : List ByteArray) : Value := if okB b xs = true then .tuple #[.string ⟨(jk b xs xs.length).toArray⟩, .bool true] else .tuple #[.string ⟨#[]⟩, .bool false]
theorem jV_no {b : UInt8} {xs : List ByteArray} (h : okB b xs = false) : jV b xs = .tuple #[.string ⟨#[]⟩, .bool false] := by simp [jV, h]
theorem jV_yes {b : UInt8} {xs : List ByteArray} (h : okB b xs = true) : jV b xs = .tuple #[.string ⟨(jk b xs xs.length).toArray⟩, .bool true] := by simp [jV, h]

theorem contains_sep (s sep : ByteArray) (b : UInt8) (w : World) (h : sep = ⟨#[b]⟩) :
    Calls Try.prog 30 #[.string s, .string sep] w fun e w' => e = .returned (.bool (stB b s.data.toList)) ∧ w = w' := by
  subst h
  refine (Try.strings_Contains_one s b w).mono ?_
  rintro e w' ⟨rfl, rfl⟩
  rw [stB_index]
  exact ⟨rfl, rfl⟩

set_option maxHeartbeats 1000000 in
theorem implJoin_any (A : Option Addr) (c n : Nat) (xs : List ByteArray) (sep : ByteArray) (b : UInt8) (w : World) (h : RdS w A xs) (hA : ∀ a, A = some a → a.block < w.heap.size) (hn : xs.length = n) (hcap : n ≤ c) (hlim : n + lens xs ≤ 1048576) (hsep : sep = ⟨#[b]⟩) :
    Calls Try.prog 12 #[.slice A n c, .string sep] w fun e w' => e = .returned (jV b xs) ∧ Below w.heap.size w w' := by
  have hn1 : ((sep.size : Int) != 1) = false := by simp [hsep, ByteArray.size]
  have H := Lib.hid h
  have HA := Lib.hid hA
  have HN := Lib.hid hn
  have HSep := Lib.hid hsep
  clear h hA hn hsep
  by_cases h0 : n = 0
  · subst h0
    have HE := Lib.hid (jV_no (b := b) (xs := xs) (by simp [okB, HN.out]))
    go_enter Try.func12, Try.ntmps12
    go_wp2_with fail
    go_ret2
    exact ⟨by rw [HE.out]; rfl, Below.refl _ _⟩
  · have hz : ((n : Int) == 0) = false := by rw [beq_eq_false_iff_ne]; omega
    have hpos : 0 < n := by omega
    clear h0
    go_enter Try.func12, Try.ntmps12
    go_wp2_with fail
    go_loop [6, 22] (fun l i => ∃ k t : Nat, k ≤ n ∧ i = .int .i64 k ∧ l = .int .i64 ((n : Int) - 1 + t) ∧ (k = n → n - 1 + t ≤ 4000) ∧ t ≤ 1048576 ∧ Hid (t = lens (xs.take k)) ∧ Hid (∀ (i : Nat) (x : ByteArray), i < k → xs[i]? = some x → stB b x.data.toList = false)) (fun _ i => n - (intOf i).toNat)
    case atStart => exact ⟨0, 0, Nat.zero_le _, rfl, by simp, fun h => by omega, by omega, Lib.hid rfl, Lib.hid (fun i x hi => by omega)⟩
    case round =>
      obtain ⟨k, t, hk, rfl, rfl, hend, ht, HT, HB⟩ := hrel
      have HEnd := Lib.hid hend
      clear hend
      by_cases hlt : k < n
      · have hkx : k < xs.length := by rw [HN.out]; exact hlt
        have hx? := List.getElem?_eq_getElem hkx
        obtain ⟨g, o, rfl, hc⟩ := H.out k xs[k] hx?
        have HS := Lib.hid (lens_take_succ xs k xs[k] hx?)
        have HL := Lib.hid (lens_take_le xs (k + 1))
        have HX := Lib.hid hx?
        clear hx?
        generalize xs[k] = x at *
        have hxs : t + x.size + n ≤ 1048576 := by have := HT.out; have := HS.out; have := HL.out; omega
        by_cases hbig : 4000 < n - 1 + t + x.size
        · have hd : decide (4000 < (n : Int) - 1 + t + x.size) = true := by simp; omega
          have HE := Lib.hid (jV_no (b := b) (xs := xs) (okB_false_len (by have := HT.out; have := HS.out; have := HL.out; rw [HN.out]; omega)))
          go_wp2_with fail
          go_ret2
          exact ⟨by rw [HE.out]; rfl, Below.refl _ _⟩
        · have hd : decide (4000 < (n : Int) - 1 + t + x.size) = false := by simp; omega
          by_cases hst : stB b x.data.toList = true
          · have HE := Lib.hid (jV_no (b := b) (xs := xs) (okB_false_st HX.out hst))
            go_wp2_with (go_at_call 30; refine (contains_sep _ _ b _ HSep.out).mono ?_; rintro e w' ⟨rfl, rfl⟩)
            go_ret2
            exact ⟨by rw [HE.out]; rfl, Below.refl _ _⟩
          · have hst' : stB b x.data.toList = false := by simpa using hst
            have HST := Lib.hid hst'
            clear hst
            go_wp2_with (go_at_call 30; refine (contains_sep _ _ b _ HSep.out).mono ?_; rintro e w' ⟨rfl, rfl⟩)
            go_round
            case rel =>
              refine ⟨k + 1, t + x.size, by omega, by go_num, by go_num, fun _ => by omega, by omega, Lib.hid (by rw [HS.out, ← HT.out]), Lib.hid (fun i y hi hy => ?_)⟩
              by_cases hik : i = k
              · subst hik
                have := HX.out
                rw [hy] at this
                cases this
                exact HST.out
              · exact HB.out i y (by omega) hy
            case measure => simp [intOf]; omega
      · obtain rfl : k = n := by omega
        have hall : xs.take k = xs := List.take_of_length_le (by rw [HN.out]; omega)
        have hlen : k - 1 + lens xs ≤ 4000 := by have := HEnd.out rfl; have h2 := HT.out; rw [hall] at h2; omega
        have HE := Lib.hid (jV_yes (okB_true (b := b) (xs := xs) (fun i x hx => HB.out i x (by rw [← HN.out]; exact (List.getElem?_eq_some_iff.1 hx).1) hx) (by rw [HN.out]; exact hlen) (by rw [HN.out]; exact hpos)))
        obtain ⟨g, o, rfl, _⟩ := H.out 0 (xs[0]'(by rw [HN.out]; exact hpos)) (List.getElem?_eq_getElem _)
        have hg : g < w.heap.size := HA.out _ rfl
        have hjl := jk_len b xs k hpos (by rw [HN.out]; exact Nat.le_refl _)
        rw [hall] at hjl
        have hJ : Calls Try.prog 31 #[.slice (some ⟨g, o, none⟩) k c, .string sep] w fun e w' => e = .returned (.string ⟨(jk b xs k).toArray⟩) ∧ Below w.heap.size w w' := by
          have e : Lib.join (xs.map (·.data.toList)) sep.data.toList = jk b xs k := by rw [HSep.out, jk, hall]; rfl
          have := Try.strings_Join g o c xs sep w (fun j x hx => by
            obtain ⟨g', o', e', hc⟩ := H.out j x hx
            simp at e'
            obtain ⟨rfl, rfl⟩ := e'
            exact hc) hg (by rw [HN.out]; omega) (by rw [HN.out]; exact hcap) (by rw [e, hjl]; omega)
          rwa [e, HN.out] at this
        have HJ := Lib.hid hJ
        clear hJ hall hlen hjl
        go_wp2_with (go_at_call 31; refine HJ.out.mono ?_; rintro e w' ⟨rfl, hb⟩)
        go_ret2
        exact ⟨by rw [HE.out, HN.out]; rfl, hb⟩

theorem l1Stands_q (s : ByteArray) (b : UInt8) (r : Bool) (w : World) (hs : s.size ≤ maxLen) (hr : stB b s.data.toList = r) :
    Calls Try.prog 32 #[.string s, .int .u8 b.toNat] w fun e w' => e = .returned (.bool r) ∧ w' = w :=
  (l1Stands_any s b w hs).mono fun _ _ ⟨he, hw⟩ => ⟨by rw [he, hr], hw.symm⟩

theorem ba_cat (a b : ByteArray) : (a ++ b).data.toList = a.data.toList ++ b.data.toList := by simp
theorem jk_step (b : UInt8) (xs : List ByteArray) (k : Nat) (o x sep : ByteArray) (hk : 0 < k) (hx : xs[k]? = some x) (ho : o = ⟨(jk b xs k).toArray⟩) (hsep : sep = ⟨#[b]⟩) : o ++ sep ++ x = ⟨(jk b xs (k + 1)).toArray⟩ := by
  apply ByteArray.ext
  apply Array.ext'
  rw [ba_cat, ba_cat, jk_succ b xs k x hk hx, ho, hsep]
theorem jk_first (b : UInt8) (xs : List ByteArray) (o x : ByteArray) (hx : xs[0]? = some x) (ho : o = ⟨(jk b xs 0).toArray⟩) : o ++ x = ⟨(jk b xs 1).toArray⟩ := by
  apply ByteArray.ext
  apply Array.ext'
  rw [ba_cat, jk_one b xs x hx, ho]
  rfl

set_option maxHeartbeats 1000000 in
theorem specJoin_any (A : Option Addr) (c n : Nat) (xs : List ByteArray) (sep : ByteArray) (b : UInt8) (w : World) (h : RdS w A xs) (hn : xs.length = n) (hlim : n + lens xs ≤ 1048576) (hsep : sep = ⟨#[b]⟩) :
    Calls Try.prog 13 #[.slice A n c, .string sep] w fun e w' => e = .returned (jV b xs) ∧ ∃ q, w' = w.drewN q := by
  have hn1 : ((sep.size : Int) != 1) = false := by simp [hsep, ByteArray.size]
  have hp : 0 < sep.size := by simp [hsep, ByteArray.size]
  have hp1 : sep.size ≤ 1 := by simp [hsep, ByteArray.size]
  have hsb : (sep[0].toNat : Int) = (b.toNat : Int) := by subst hsep; rfl
  have H := Lib.hid h
  have HN := Lib.hid hn
  have HSep := Lib.hid hsep
  clear h hn hsep
  by_cases h0 : n = 0
  · subst h0
    have HE := Lib.hid (jV_no (b := b) (xs := xs) (by simp [okB, HN.out]))
    go_enter Try.func13, Try.ntmps13
    go_wp2_with fail
    go_ret2
    exact ⟨by rw [HE.out]; rfl, 0, rfl⟩
  · have hz : ((n : Int) == 0) = false := by rw [beq_eq_false_iff_ne]; omega
    have hpos : 0 < n := by omega
    clear h0
    go_enter Try.func13, Try.ntmps13
    go_wp2_with fail
    go_loopw [6, 7] (fun v i wr => ∃ (k : Nat) (o : ByteArray), k ≤ n ∧ i = .int .i64 k ∧ v = .string o ∧ o.size ≤ 4000 ∧ Hid (o = ⟨(jk b xs k).toArray⟩) ∧ Hid (∀ (i : Nat) (x : ByteArray), i < k → xs[i]? = some x → stB b x.data.toList = false) ∧ Hid (∃ q, wr = w.drewN q)) (fun _ i _ => n - (intOf i).toNat)
    case atStart => exact ⟨0, ⟨#[]⟩, Nat.zero_le _, rfl, rfl, by simp [ByteArray.size], Lib.hid rfl, Lib.hid (fun i x hi => by omega), Lib.hid ⟨0, rfl⟩⟩
    case round =>
      obtain ⟨k, o, hk, rfl, rfl, ho, HO, HB, HW⟩ := hrel
      by_cases hlt : k < n
      · have hkx : k < xs.length := by rw [HN.out]; exact hlt
        have hx? := List.getElem?_eq_getElem hkx
        obtain ⟨g, of, rfl, hc0⟩ := H.out k xs[k] hx?
        have hc : wr.cell? ⟨g, of + k, none⟩ = some (.string xs[k]) := by obtain ⟨q, rfl⟩ := HW.out; exact hc0
        have HS := Lib.hid (lens_take_succ xs k xs[k] hx?)
        have HL := Lib.hid (lens_take_le xs (k + 1))
        have HX := Lib.hid hx?
        clear hx? hc0
        generalize xs[k] = x at *
        have hxs : x.size ≤ 1048576 := by have := HS.out; have := HL.out; omega
        by_cases hst : stB b x.data.toList = true
        · have HE := Lib.hid (jV_no (b := b) (xs := xs) (okB_false_st HX.out hst))
          have HST := Lib.hid hst
          clear hst
          go_wp2_with fail
          go_quiet ((go_at_call 32; exact Calls.quiet_of_same (l1Stands_q _ b true _ (by unfold maxLen; omega) HST.out)))
          go_wp2_with fail
          go_ret2
          refine ⟨by rw [HE.out]; rfl, ?_⟩
          obtain ⟨q, rfl⟩ := HW.out
          exact ⟨_, World.drewN_drewN _ _ _⟩
        · have hst' : stB b x.data.toList = false := by simpa using hst
          have HST := Lib.hid hst'
          clear hst hst'
          have HBn : Hid (∀ (i : Nat) (y : ByteArray), i < k + 1 → xs[i]? = some y → stB b y.data.toList = false) := Lib.hid (fun i y hi hy => by
            by_cases hik : i = k
            · subst hik
              have := HX.out
              rw [hy] at this
              cases this
              exact HST.out
            · exact HB.out i y (by omega) hy)
          have HJL := Lib.hid (jk_len b xs (k + 1) (by omega) (by rw [HN.out]; omega))
          by_cases hk0 : k = 0
          · have HJ : Hid (o ++ x = ⟨(jk b xs (k + 1)).toArray⟩) := by
              have h1 := HX.out
              have h2 := HO.out
              rw [hk0] at h1 h2 ⊢
              exact Lib.hid (jk_first b xs o x h1 h2)
            have hkz : k ≤ 0 := by omega
            have hkd : decide (0 < k) = false := by simp; omega
            clear hk0
            by_cases hbig : 4000 < o.size + x.size
            · have HE := Lib.hid (jV_no (b := b) (xs := xs) (okB_false_len (by
                have h1 := HJL.out; have h2 := congrArg ByteArray.size HJ.out; have := HL.out
                rw [ByteArray.size_append] at h2
                rw [show (ByteArray.mk (jk b xs (k + 1)).toArray).size = (jk b xs (k + 1)).length from by simp [ByteArray.size]] at h2
                rw [HN.out]; omega)))
              go_wp2_with fail
              go_quiet ((go_at_call 32; exact Calls.quiet_of_same (l1Stands_q _ b false _ (by unfold maxLen; omega) HST.out)))
              go_wp2_with fail
              go_ret2
              refine ⟨by rw [HE.out]; rfl, ?_⟩
              obtain ⟨q, rfl⟩ := HW.out
              exact ⟨_, World.drewN_drewN _ _ _⟩
            · go_wp2_with fail
              go_quiet ((go_at_call 32; exact Calls.quiet_of_same (l1Stands_q _ b false _ (by unfold maxLen; omega) HST.out)))
              go_wp2_with fail
              go_roundw
              case rel =>
                refine ⟨k + 1, o ++ x, by omega, by go_num, rfl, by rw [ByteArray.size_append]; omega, Lib.hid HJ.out, HBn, Lib.hid ?_⟩
                obtain ⟨q, rfl⟩ := HW.out
                exact ⟨_, World.drewN_drewN _ _ _⟩
              case measure => simp [intOf]; omega
          · have hkp : 0 < k := by omega
            have hkd : decide (0 < k) = true := by simp; omega
            clear hk0
            have HJ := Lib.hid (jk_step b xs k o x sep hkp HX.out HO.out HSep.out)
            by_cases hbig : 4000 < o.size + sep.size + x.size
            · have HE := Lib.hid (jV_no (b := b) (xs := xs) (okB_false_len (by
                have h1 := HJL.out; have h2 := congrArg ByteArray.size HJ.out; have := HL.out
                rw [ByteArray.size_append, ByteArray.size_append] at h2
                rw [show (ByteArray.mk (jk b xs (k + 1)).toArray).size = (jk b xs (k + 1)).length from by simp [ByteArray.size]] at h2
                rw [HN.out]; omega)))
              go_wp2_with fail
              go_quiet ((go_at_call 32; exact Calls.quiet_of_same (l1Stands_q _ b false _ (by unfold maxLen; omega) HST.out)))
              go_wp2_with fail
              go_ret2
              refine ⟨by rw [HE.out]; rfl, ?_⟩
              obtain ⟨q, rfl⟩ := HW.out
              exact ⟨_, World.drewN_drewN _ _ _⟩
            · go_wp2_with fail
              go_quiet ((go_at_call 32; exact Calls.quiet_of_same (l1Stands_q _ b false _ (by unfold maxLen; omega) HST.out)))
              go_wp2_with fail
              go_roundw
              case rel =>
                refine ⟨k + 1, o ++ sep ++ x, by omega, by go_num, rfl, by rw [ByteArray.size_append, ByteArray.size_append]; omega, Lib.hid HJ.out, HBn, Lib.hid ?_⟩
                obtain ⟨q, rfl⟩ := HW.out
                exact ⟨_, World.drewN_drewN _ _ _⟩
              case measure => simp [intOf]; omega
      · obtain rfl : k = n := by omega
        have HJL := Lib.hid (jk_len b xs k hpos (by rw [HN.out]; exact Nat.le_refl _))
        have hall : xs.take k = xs := List.take_of_length_le (by rw [HN.out]; omega)
        have hlen : k - 1 + lens xs ≤ 4000 := by
          have h1 := HJL.out; have h2 := congrArg ByteArray.size HO.out
          rw [hall] at h1
          simp only [ByteArray.size, List.size_toArray] at h1 h2
          simp only [ByteArray.size] at ho
          omega
        have HE := Lib.hid (jV_yes (okB_true (b := b) (xs := xs) (fun i x hx => HB.out i x (by rw [← HN.out]; exact (List.getElem?_eq_some_iff.1 hx).1) hx) (by rw [HN.out]; exact hlen) (by rw [HN.out]; exact hpos)))
        clear hall hlen
        go_wp2_with fail
        go_ret2
        exact ⟨by rw [HE.out, HN.out, ← HO.out]; rfl, HW.out⟩

theorem implJoin_no (A : Option Addr) (c n : Nat) (sep : ByteArray) (w : World) (hsep : sep.size ≠ 1) :
    Calls Try.prog 12 #[.slice A n c, .string sep] w fun e w' => e = .returned (.tuple #[.string ⟨#[]⟩, .bool false]) ∧ w = w' := by
  have hn1 : ((sep.size : Int) != 1) = true := by rw [bne_iff_ne]; omega
  clear hsep
  by_cases h0 : n = 0
  · have hz : ((n : Int) == 0) = true := by rw [beq_iff_eq]; omega
    clear h0
    go_enter Try.func12, Try.ntmps12
    go_wp2_with fail
    go_ret2
    exact ⟨rfl, rfl⟩
  · have hz : ((n : Int) == 0) = false := by rw [beq_eq_false_iff_ne]; omega
    clear h0
    go_enter Try.func12, Try.ntmps12
    go_wp2_with fail
    go_ret2
    exact ⟨rfl, rfl⟩
theorem specJoin_no (A : Option Addr) (c n : Nat) (sep : ByteArray) (w : World) (hsep : sep.size ≠ 1) :
    Calls Try.prog 13 #[.slice A n c, .string sep] w fun e w' => e = .returned (.tuple #[.string ⟨#[]⟩, .bool false]) ∧ w = w' := by
  have hn1 : ((sep.size : Int) != 1) = true := by rw [bne_iff_ne]; omega
  clear hsep
  go_enter Try.func13, Try.ntmps13
  go_wp2_with fail
  go_ret2
  exact ⟨rfl, rfl⟩

theorem one_byte {sep : ByteArray} (h : sep.size = 1) : ∃ b, sep = ⟨#[b]⟩ := by
  obtain ⟨⟨l⟩⟩ := sep
  match l, h with
  | [b], _ => exact ⟨b, rfl⟩
/-- the answer of both, as one value -/
def both (sep : ByteArray) (xs : List ByteArray) : Value := if h : sep.size = 1 then jV (sep[0]'(by omega)) xs else .tuple #[.string ⟨#[]⟩, .bool false]
theorem both_no {sep : ByteArray} {xs : List ByteArray} (h : sep.size ≠ 1) : both sep xs = .tuple #[.string ⟨#[]⟩, .bool false] := dif_neg h
theorem both_yes {sep : ByteArray} {xs : List ByteArray} {b : UInt8} (h : sep = ⟨#[b]⟩) : both sep xs = jV b xs := by
  subst h; rfl
theorem both_form (sep : ByteArray) (xs : List ByteArray) : ∃ t r, both sep xs = .tuple #[.string t, .bool r] := by
  by_cases h : sep.size = 1
  · obtain ⟨b, rfl⟩ := one_byte h
    rw [both_yes rfl]
    cases ho : okB b xs with
    | true => exact ⟨_, _, jV_yes ho⟩
    | false => exact ⟨_, _, jV_no ho⟩
  · exact ⟨_, _, both_no h⟩
theorem implJoin (A : Option Addr) (c n : Nat) (xs : List ByteArray) (sep : ByteArray) (w : World) (h : RdS w A xs) (hA : ∀ a, A = some a → a.block < w.heap.size) (hn : xs.length = n) (hcap : n ≤ c) (hlim : n + lens xs ≤ 1048576) :
    Calls Try.prog 12 #[.slice A n c, .string sep] w fun e w' => e = .returned (both sep xs) ∧ Below w.heap.size w w' := by
  by_cases h1 : sep.size = 1
  · obtain ⟨b, hb⟩ := one_byte h1
    rw [both_yes hb]
    exact implJoin_any A c n xs sep b w h hA hn hcap hlim hb
  · rw [both_no h1]
    exact (implJoin_no A c n sep w h1).mono fun e w' ⟨he, hw⟩ => ⟨he, hw ▸ Below.refl _ _⟩
theorem specJoin (A : Option Addr) (c n : Nat) (xs : List ByteArray) (sep : ByteArray) (w : World) (h : RdS w A xs) (hn : xs.length = n) (hlim : n + lens xs ≤ 1048576) :
    Calls Try.prog 13 #[.slice A n c, .string sep] w fun e w' => e = .returned (both sep xs) ∧ Below w.heap.size w w' := by
  by_cases h1 : sep.size = 1
  · obtain ⟨b, hb⟩ := one_byte h1
    rw [both_yes hb]
    refine (specJoin_any A c n xs sep b w h hn hlim hb).mono fun e w' ⟨he, q, hw⟩ => ⟨he, ?_⟩
    subst hw
    exact ⟨rfl, rfl, rfl, Nat.le_refl _, fun _ _ => rfl⟩
  · rw [both_no h1]
    exact (specJoin_no A c n sep w h1).mono fun e w' ⟨he, hw⟩ => ⟨he, hw ▸ Below.refl _ _⟩
end Go.Proofs.Ytbfnfhaefhklaaa.Join
