/-
  Contracts of spec.l2Join, spec.l2Given, spec.l2Full, impl.joinPresent, strings.Join at a space.
-/
import Derived.Test.YteccmlpibbchbaaGreatDoorGood
import Derived.Test.YteccmlpibbchbaaGreatDoorShelf
import Derived.Maps.AppendAt
import Derived.RangeFuncBox
import Derived.Deep.RegionHeld3
namespace Go.Proofs.YteccmlpibbchbaaGreatDoor.Forms
open Go.RowKit Pl Strs Help Name Stands SplitPl NmPl Word Part NGood

theorem ls_take (xs : List ByteArray) (k : Nat) : ls (xs.take k) = (ls xs).take k := by simp [ls]
theorem ls_take_succ {xs : List ByteArray} {k : Nat} {x : ByteArray} (h : xs[k]? = some x) : ls (xs.take (k + 1)) = ls (xs.take k) ++ [x.data.toList] := by
  unfold ls; rw [List.take_add_one, h]; simp
theorem jn_take {xs : List ByteArray} {k : Nat} {x : ByteArray} (h : xs[k]? = some x) : jn (ls (xs.take (k + 1))) = jstep (jn (ls (xs.take k))) x.data.toList := by
  rw [ls_take_succ h, jn_snoc]
theorem ba_cat (a b : ByteArray) : (a ++ b).data.toList = a.data.toList ++ b.data.toList := by simp
theorem eq_ba {a : ByteArray} {l : List UInt8} (h : a.data.toList = l) : a = ba l := by rw [← h, ba_toList]
theorem jstep_a (s x : List UInt8) (h : s = []) : jstep s x = s ++ x := by subst h; simp [jstep]
theorem jstep_b (s x : List UInt8) (h : x = []) : jstep s x = s ++ x := by subst h; simp [jstep]
theorem jstep_c (s x : List UInt8) (h : s ≠ []) (h2 : x ≠ []) : jstep s x = s ++ 32 :: x := by simp [jstep, h, h2]

set_option maxHeartbeats 1000000 in
theorem l2Join (A : Option Addr) (c n : Nat) (xs : List ByteArray) (w : World) (h : RdS w A xs) (hn : xs.length = n) (hlim : n + lens xs ≤ 4194304) :
    Calls Tryz.prog 112 #[.slice A n c] w fun e w' => e = .returned (.string (ba (jn (ls xs)))) ∧ w = w' := by
  have H := Lib.hid h
  have HN := Lib.hid hn
  clear h hn
  go_enter Tryz.func112, Tryz.ntmps112
  go_wp2_with fail
  go_loop [3, 4] (fun v i => ∃ (k : Nat) (o : ByteArray), k ≤ n ∧ i = .int .i64 k ∧ v = .string o ∧ Hid (o.data.toList = jn (ls (xs.take k))) ∧ o.size ≤ 4194304 ∧ Hid (o.size ≤ k + lens (xs.take k))) (fun _ i => n - (intOf i).toNat)
  case atStart => exact ⟨0, ⟨#[]⟩, Nat.zero_le _, rfl, rfl, Lib.hid rfl, by simp [ByteArray.size], Lib.hid (by simp [ByteArray.size])⟩
  case round =>
    obtain ⟨k, o, hk, rfl, rfl, HO, ho, HZ⟩ := hrel
    by_cases hlt : k < n
    · have hkx : k < xs.length := by rw [HN.out]; exact hlt
      have hx? := List.getElem?_eq_getElem hkx
      obtain ⟨g, of, rfl, hc⟩ := H.out k xs[k] hx?
      have HS := Lib.hid (lens_take_succ xs k xs[k] hx?)
      have HL := Lib.hid (lens_take_le xs (k + 1))
      have HJ := Lib.hid (jn_take hx?)
      clear hx?
      generalize xs[k] = x at *
      have hsum : o.size + 1 + x.size ≤ 4194304 := by have := HZ.out; have := HS.out; have := HL.out; omega
      by_cases ho0 : o.data.toList = []
      · obtain rfl := str_nil ho0
        clear ho0
        go_wp2_with fail
        go_round
        case rel =>
          refine ⟨k + 1, _, by omega, by go_num, rfl, Lib.hid ?_, ?_, Lib.hid ?_⟩
          · rw [HJ.out, jstep_a _ _ (by rw [← HO.out]), ← HO.out, ba_cat]
          · rw [ByteArray.size_append]; omega
          · have := HZ.out; have := HS.out; rw [ByteArray.size_append]; omega
        case measure => simp [intOf]; omega
      · obtain ⟨he, he'⟩ := str_ne ho0
        have HO0 := Lib.hid ho0
        clear ho0
        by_cases hx0 : x.data.toList = []
        · obtain rfl := str_nil hx0
          clear hx0
          go_wp2_with fail
          go_round
          case rel =>
            refine ⟨k + 1, _, by omega, by go_num, rfl, Lib.hid ?_, ?_, Lib.hid ?_⟩
            · rw [HJ.out, jstep_b _ _ rfl, ← HO.out, ba_cat]
            · rw [ByteArray.size_append]; omega
            · have := HZ.out; have := HS.out; rw [ByteArray.size_append]; omega
          case measure => simp [intOf]; omega
        · obtain ⟨hxe, hxe'⟩ := str_ne hx0
          have HX0 := Lib.hid hx0
          clear hx0
          go_wp2_with fail
          go_round
          case rel =>
            refine ⟨k + 1, _, by omega, by go_num, rfl, Lib.hid ?_, ?_, Lib.hid ?_⟩
            · rw [HJ.out, jstep_c _ _ (by rw [← HO.out]; exact HO0.out) HX0.out, ← HO.out, ba_cat, ba_cat]; simp
            · rw [ByteArray.size_append, ByteArray.size_append, show (ByteArray.mk #[32]).size = 1 from rfl]; omega
            · have := HZ.out; have := HS.out; rw [ByteArray.size_append, ByteArray.size_append, show (ByteArray.mk #[32]).size = 1 from rfl]; omega
          case measure => simp [intOf]; omega
    · have HX : Hid (o = ba (jn (ls xs))) := Lib.hid (by
        have := HO.out
        rw [List.take_of_length_le (by rw [HN.out]; omega)] at this
        exact eq_ba this)
      go_wp2_with fail
      go_ret
      exact ⟨by rw [HX.out]; rfl, rfl⟩

theorem l2Given (A : Option Addr) (c n : Nat) (xs : List ByteArray) (p f s : ByteArray) (w : World) (h : Rdn w A n xs) (hlim : n + lens xs ≤ 4194304) :
    Calls Tryz.prog 130 #[nmV (.slice A n c) p f s] w fun e w' => e = .returned (.string (ba (jn (ls xs)))) ∧ Below w.heap.size w w' := by
  have HB := Lib.hid ((Below.refl _ w).alloc (Nat.le_refl _) (.cells #[.slice A n c, .string p, .string f, .string s] 111))
  have HG := Lib.hid (l2Join A c n xs _ (h.below HB.out).1 h.2.2 hlim)
  clear h
  go_enter Tryz.func130, Tryz.ntmps130
  go_wp2_with fail
  refine HG.out.mono ?_
  rintro e w1 ⟨rfl, rfl⟩
  go_wp2_with fail
  go_ret
  exact ⟨rfl, HB.out⟩

/-- a slice literal of strings -/
theorem rds_lit {w : World} {cs : Array Value} {t : TypeId} {xs : List ByteArray} (h : cs = (xs.map Value.string).toArray) : RdS (w.alloc (.cells cs t)) (some ⟨w.heap.size, 0, none⟩) xs := by
  intro j x hx
  subst h
  refine ⟨w.heap.size, 0, rfl, ?_⟩
  rw [Nat.zero_add, World.cell?_alloc_mark]
  simp [hx]
theorem Kept.alloc {W w1 : World} (h : Kept W w1) (o : Obj) : Kept W (w1.alloc o) := Below.alloc h (Below.size h) o

/-- the full form -/
def fullL (xs : List ByteArray) (p f s : ByteArray) : List UInt8 := jn [jn (ls xs), p.data.toList, f.data.toList, s.data.toList]
theorem jn_len (xs : List ByteArray) : (jn (ls xs)).length ≤ xs.length + lens xs := by
  refine listSnoc (P := fun xs => (jn (ls xs)).length ≤ xs.length + lens xs) (by simp [jn, ls]) ?_ xs
  intro l x ih
  have e : ls (l ++ [x]) = ls l ++ [x.data.toList] := by simp [ls]
  have e2 : lens (l ++ [x]) = lens l + x.size := by simp [lens]
  have h := jstep_len (jn (ls l)) x.data.toList
  rw [len_size] at h
  rw [e, jn_snoc, e2]
  simp
  omega

end Go.Proofs.YteccmlpibbchbaaGreatDoor.Forms
