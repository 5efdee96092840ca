/-
  Contract of impl.initialsOf.
-/
import Derived.Test.YtdjkgkfgnmcldaaDoorIni
namespace Go.Proofs.YtdjkgkfgnmcldaaDoor.Ini
open Go.RowKit Pl Strs Help Name Stands SplitPl NmPl Word Part NGood Forms Cut IniPl

/-- the initials of the words -/
def inis (xs : List ByteArray) : List ByteArray := xs.map fun x => ba (ini x.data.toList)
def iniL (xs : List ByteArray) (_p _f _s : ByteArray) : List UInt8 := jn (ls (inis xs))
theorem inis_len (xs : List ByteArray) : (inis xs).length = xs.length := by simp [inis]
theorem inis_take {xs : List ByteArray} {k : Nat} {x : ByteArray} (h : xs[k]? = some x) : inis (xs.take (k + 1)) = inis (xs.take k) ++ [ba (ini x.data.toList)] := by
  unfold inis; rw [List.take_add_one, h]; simp
theorem iniT_len (ps : List (List UInt8)) : (iniT ps).length = 3 * ps.length := by
  unfold iniT
  induction ps with
  | nil => rfl
  | cons p r ih => simp only [List.map_cons, List.flatten_cons, List.length_append, ih, List.length_cons]; simp [up3]; omega
theorem ini_len (l : List UInt8) : (ini l).length ≤ 2 + 3 * l.length := by
  unfold ini
  have := split_count 45 l
  rw [List.length_append, iniT_len, List.length_tail]
  simp
  omega
theorem inis_lens {xs : List ByteArray} (h : ∀ x ∈ xs, x.size ≤ 12) : lens (inis xs) ≤ 38 * xs.length := by
  unfold inis lens
  induction xs with
  | nil => simp
  | cons x r ih =>
    have h1 := h x (List.mem_cons_self ..)
    have h2 := ih fun y hy => h y (List.mem_cons_of_mem _ hy)
    have h3 := ini_len x.data.toList
    rw [len_size] at h3
    simp only [List.map_cons, List.sum_cons, List.length_cons, ba_size]
    omega
theorem ini_ne (l : List UInt8) : ini l ≠ [] := by unfold ini; simp
theorem inis_nes (xs : List ByteArray) : ∀ x ∈ ls (inis xs), x ≠ [] := by
  intro x hx
  unfold ls inis at hx
  rw [List.map_map] at hx
  obtain ⟨y, _, rfl⟩ := List.mem_map.1 hx
  simp only [Function.comp]
  rw [toList_ba]
  exact ini_ne _
theorem cap_of_mem {xs : List ByteArray} (h : ∀ x ∈ ls xs, capB x = true) {k : Nat} {x : ByteArray} (hx : xs[k]? = some x) : wgo false x.data.toList = true ∧ x.size ≤ 12 := by
  have := h x.data.toList (by unfold ls; exact List.mem_map.2 ⟨x, List.mem_of_getElem? hx, rfl⟩)
  refine ⟨word_wgo (cap_word this), ?_⟩
  rw [← len_size]; exact word_len (cap_word this)
theorem caps_size {xs : List ByteArray} (h : ∀ x ∈ ls xs, capB x = true) : ∀ x ∈ xs, x.size ≤ 12 := by
  intro x hx
  rw [← len_size]
  exact word_len (cap_word (h _ (by unfold ls; exact List.mem_map.2 ⟨x, hx, rfl⟩)))

set_option maxHeartbeats 2000000 in
theorem implInitials (A : Option Addr) (c n : Nat) (xs : List ByteArray) (p f s : ByteArray) (w : World) (h : Rdn w A n xs) (hcp : ∀ x ∈ ls xs, capB x = true) (hn3 : n ≤ 1000) :
    Calls Tryd.prog 31 #[nmV (.slice A n c) p f s] w fun e w' => e = .returned (.string (ba (iniL xs p f s))) ∧ Below w.heap.size w w' := by
  obtain ⟨i0, hi, hz0, hz1, hz2⟩ := info_parts Split.infoStr
  have HB := Lib.hid ((Below.refl _ w).alloc (Nat.le_refl _) (.cells #[.slice A n c, .string p, .string f, .string s] 43))
  have H := Lib.hid (h.below HB.out)
  have HN := Lib.hid h.2.2
  have HCp := Lib.hid hcp
  clear h hcp
  go_enter Tryd.func31, Tryd.ntmps31
  go_wp2_with fail
  have HO0 : Hid (((w.alloc (.cells #[.slice A n c, .string p, .string f, .string s] 43)).alloc (.cells #[] 9)).ownsRow (w.alloc (.cells #[.slice A n c, .string p, .string f, .string s] 43)).heap.size 9 1 (.slice (some ⟨w.heap.size + 1, 0, none⟩) 0 0) 0 []) := Lib.hid (by
    have := World.ownsRow_lit (base := (w.alloc (.cells #[.slice A n c, .string p, .string f, .string s] 43)).heap.size) (e := 9) (size := 1) (w.alloc (.cells #[.slice A n c, .string p, .string f, .string s] 43)) #[] 0 (Nat.le_refl _) (Nat.zero_le _) rfl
    simpa using this)
  have HB1 : Hid (Below (w.alloc (.cells #[.slice A n c, .string p, .string f, .string s] 43)).heap.size (w.alloc (.cells #[.slice A n c, .string p, .string f, .string s] 43)) ((w.alloc (.cells #[.slice A n c, .string p, .string f, .string s] 43)).alloc (.cells #[] 9))) := Lib.hid ((Below.refl _ _).alloc (Nat.le_refl _) _)
  generalize w.alloc (.cells #[.slice A n c, .string p, .string f, .string s] 43) = W0 at *
  go_loopw [3, 10] (fun v i wr => ∃ k : Nat, k ≤ n ∧ i = .int .i64 k ∧ wr.ownsRow W0.heap.size 9 1 v k ((inis (xs.take k)).map Value.string) ∧ Below W0.heap.size W0 wr) (fun _ i _ => n - (intOf i).toNat)
  case atStart => exact ⟨0, Nat.zero_le _, rfl, HO0.out, HB1.out⟩
  case round =>
    obtain ⟨k, hk, rfl, hown, hbe⟩ := hrel
    have hbs := hbe.size
    by_cases hlt : k < n
    · have hkx : k < xs.length := by rw [HN.out]; exact hlt
      have hx? := List.getElem?_eq_getElem hkx
      obtain ⟨g, of, rfl, hc0⟩ := H.out.1 k xs[k] hx?
      have hg : g < W0.heap.size := H.out.2.1 (by omega) _ rfl
      have hc : wr.cell? ⟨g, of + k, none⟩ = some (.string xs[k]) := (hbe.cell (p := ⟨g, of + k, none⟩) hg).trans hc0
      have HT := Lib.hid (inis_take hx?)
      obtain ⟨hwg, hsx⟩ := cap_of_mem HCp.out hx?
      have HWg := Lib.hid hwg
      clear hx? hc0 hwg
      generalize xs[k] = x at *
      have HO := Lib.hid hown
      clear hown
      go_wp2_with fail
      refine (wordIni x _ HWg.out (by omega)).mono ?_
      rintro e w1 ⟨rfl, b1⟩
      have hown1 := own_below HO.out b1
      have hbe1 := hbe.trans (b1.mono hbs)
      have hbs1 : W0.heap.size ≤ w1.heap.size := Nat.le_trans hbs b1.size
      generalize ba (ini x.data.toList) = t at *
      go_wp2_with (first
        | (at_builtin; refine wpList_append_own _ rfl _ _ 41 rfl W0.heap.size 9 i0 (.string ByteArray.empty) 1 16 Tryd.underlying41 hi hz0 hz1 hz2 rfl (by decide) _ _ _ rfl (hown1.alloc _) ⟨w1.heap.size, 0, none⟩ 1 1 [.string t] rfl rfl (cell_one_new _ _ _) (by simp [Value.oneCell']) (by unfold maxLen; omega) (by omega) (by simp; omega) ?_; intro v' w2 hown' hgrow _)
        | go_in)
      go_roundw
      case rel =>
        refine ⟨k + 1, by omega, by go_num, ?_, ?_⟩
        · rw [HT.out]; simpa using hown'
        · exact (hbe1.alloc (Nat.le_trans hbs b1.size) _).grown hgrow (by have := b1.size; simp; omega) (fun g hg => (hown1.lt g hg).1)
      case measure => simp [intOf]; omega
    · obtain rfl : k = n := by omega
      have HT : Hid (xs.take k = xs) := Lib.hid (List.take_of_length_le (by rw [HN.out]; omega))
      rw [HT.out] at hown
      have hLn := inis_lens (caps_size HCp.out)
      rw [HN.out] at hLn
      have HE : Hid (ba (Lib.join (ls (inis xs)) [32]) = ba (iniL xs p f s)) := Lib.hid (by unfold iniL; rw [jn_all (inis_nes xs)])
      obtain ⟨A1, c1, rfl, _, _, _⟩ := own_rds hown
      have hcap := own_cap hown
      have HJ := Lib.hid (joinSp A1 c1 _ (inis xs) wr (Rdn.own hown) hcap (by omega))
      rw [HE.out] at HJ
      clear hown hcap HE
      go_wp2_with fail
      refine HJ.out.mono ?_
      rintro e w2 ⟨rfl, b2⟩
      go_wp2_with fail
      go_ret
      exact ⟨rfl, HB.out.trans ((hbe.trans (b2.mono hbs)).mono HB.out.size)⟩
end Go.Proofs.YtdjkgkfgnmcldaaDoor.Ini
