/-
  Contracts of l6Sort of the model and of SortTitle of both.
-/
import Derived.Test.YtobjfmchnlnohaaGreatDoorSo2
import Derived.Lib.LaidTab
namespace Go.Proofs.YtobjfmchnlnohaaGreatDoor.So
open Go.RowKit Pl NmPl TiPl Word Lt Ra Ca Jo Cs Ti Kt
set_option linter.unusedVariables false
set_option linter.unusedSimpArgs false

/-- the library's table of white space lies as laid -/
def SpT (w : World) : Prop := Lib.TabIs Tryz.prog w "strings.asciiSpace" .u8 Lib.asciiSpaceTab
theorem gSp : Tryz.prog.globalNamed "strings.asciiSpace" = some 0 := by kernel_rfl
theorem SpT.below {w w' : World} (h : SpT w) (hb : Below w.heap.size w w') : SpT w' := by
  unfold SpT Lib.TabIs World.var? at h ⊢
  simp only [gSp, Option.bind_some] at h ⊢
  have hg : 0 < w.heap.size := by
    rcases Nat.lt_or_ge 0 w.heap.size with hlt | hge
    · exact hlt
    · rw [Array.getElem?_eq_none hge] at h; cases h
  rw [hb.block _ hg]; exact h

def sortV (s : ByteArray) : Value :=
  if okT s.data.toList = true then .tuple #[.string (ba (jL (srt (simple (pl s.data.toList))))), .bool true] else .tuple #[.string ⟨#[]⟩, .bool false]
theorem sort_form (s : ByteArray) : ∃ t r, sortV s = .tuple #[.string t, .bool r] := by unfold sortV; split <;> exact ⟨_, _, rfl⟩
theorem Rd.drop1 {w : World} {g o : Nat} {xs : List (List UInt8)} (h : Rd w (some ⟨g, o, none⟩) xs) : Rd w (some ⟨g, o + 1, none⟩) (xs.tail) := fun j x hx => by
  rw [List.getElem?_tail] at hx
  obtain ⟨g', o', e, hc⟩ := h (j + 1) x hx
  simp at e
  obtain ⟨rfl, rfl⟩ := e
  exact ⟨g, o + 1, rfl, by rw [Nat.add_assoc, Nat.add_comm 1 j]; exact hc⟩
theorem simple_off (l : List UInt8) : off (simple l) ≤ l.length + 1 := by have := sm_off l []; simpa [simple] using this

theorem fields_w (x : List UInt8) (h : ∀ c ∈ x, c.toNat < 128) (hl : x.length ≤ 1048576) (w : World) (ht : SpT w) :
    Calls Tryz.prog 37 #[.string (ba x)] w fun e w' => e = .returned (.slice (some ⟨w.heap.size, 0, none⟩) (Lib.fields x).length (Lib.fields x).length) ∧ w' = w.alloc (.cells ((Lib.fields x).map fun l => Value.string (ba l)).toArray 9) := by
  have := Tryz.strings_Fields_laid (ba x) w (by rw [ba_size]; omega) (fun j b hj => by
    rw [toList_ba] at hj
    exact h b (List.mem_of_getElem? hj)) ht
  rw [toList_ba] at this
  exact this
theorem rd_lit (w : World) (F : List (List UInt8)) (t : TypeId) : Rd (w.alloc (.cells (F.map fun l => Value.string (ba l)).toArray t)) (some ⟨w.heap.size, 0, none⟩) F := fun j x hx => by
  refine ⟨w.heap.size, 0, rfl, ?_⟩
  rw [Nat.zero_add, World.cell?_alloc_mark]
  simp [hx]
theorem low_128 (l : List UInt8) : ∀ c ∈ (sbf l).map Lib.lowerB, c.toNat < 128 := by
  intro c hc
  obtain ⟨d, hd, rfl⟩ := List.mem_map.1 hc
  have h := sbf_128 l d hd
  cases hu : Lib.isUpperB d with
  | true => have h1 := up_range hu; have h2 := lowerB_of hu; omega
  | false => rw [Lib.lowerB_of_not d hu]; exact h
set_option maxRecDepth 100000 in
set_option maxHeartbeats 4000000 in
theorem sortTitle_i (s : ByteArray) (w : World) (hml : ML w) (ht : SpT w) (hs : s.size ≤ 1048576) :
    Calls Tryz.prog 16 #[.string s] w fun e w' => e = .returned (sortV s) ∧ Below w.heap.size w w' := by
  have HV := Lib.hid (fun r h => isValidT s r w hml hs h)
  have HT := Lib.hid ht
  have hpl := pl_len s.data.toList
  rw [len_size] at hpl
  have HP := Lib.hid (PlT.plain_any s w hs)
  have HQ := Lib.hid (fun w => sorted_i (ba (pl s.data.toList)) w (by rw [ba_size]; omega))
  rw [toList_ba] at HQ
  have hsl := sbf_len (pl s.data.toList)
  have HFi := Lib.hid (fun w h => fields_w ((sbf (pl s.data.toList)).map Lib.lowerB) (low_128 _) (by rw [List.length_map]; omega) w h)
  rw [fields_simple] at HFi
  have HOff : Hid (off (simple (pl s.data.toList)) ≤ 2097152) := Lib.hid (by have := simple_off (pl s.data.toList); omega)
  clear hml ht
  cases hr : okT s.data.toList with
  | false =>
    have HE : Hid (sortV s = .tuple #[.string ⟨#[]⟩, .bool false]) := Lib.hid (by unfold sortV; rw [hr]; rfl)
    have HV' := Lib.hid (HV.out false hr)
    clear hr HV
    go_enter Tryz.func16, Tryz.ntmps16
    go_wp2_with fail
    refine HV'.out.mono ?_
    rintro e w' ⟨rfl, rfl⟩
    go_wp2_with fail
    go_ret2
    exact ⟨by rw [HE.out]; rfl, Below.refl _ _⟩
  | true =>
    have HE0 : Hid (sortV s = .tuple #[.string (ba (jL (srt (simple (pl s.data.toList))))), .bool true]) := Lib.hid (by unfold sortV; rw [if_pos hr])
    have HV' := Lib.hid (HV.out true hr)
    clear hr HV
    generalize simple (pl s.data.toList) = F at *
    generalize (sbf (pl s.data.toList)).map Lib.lowerB = Y at *
    have hoff := HOff.out
    have hnb : F.length ≤ 2097152 := by have := off_ge F; omega
    go_enter Tryz.func16, Tryz.ntmps16
    go_wp2_with fail
    refine HV'.out.mono ?_
    rintro e w' ⟨rfl, rfl⟩
    go_wp2_with fail
    refine HP.out.mono ?_
    rintro e w1 ⟨rfl, b1⟩
    have HT1 := Lib.hid (HT.out.below b1)
    go_wp2_with fail
    refine (HQ.out _).mono ?_
    rintro e w2 ⟨rfl, b2⟩
    have HT2 := Lib.hid (HT1.out.below b2)
    go_wp2_with fail
    refine (HFi.out _ HT2.out).mono ?_
    rintro e w3 ⟨rfl, rfl⟩
    have hr := rd_lit w2 F 9
    have hg3 : w2.heap.size < (w2.alloc (.cells (F.map fun l => Value.string (ba l)).toArray 9)).heap.size := by simp
    have hb3 : Below w.heap.size w (w2.alloc (.cells (F.map fun l => Value.string (ba l)).toArray 9)) := (b1.trans (b2.mono b1.size)).alloc (Nat.le_trans b1.size b2.size) _
    generalize w2.alloc (.cells (F.map fun l => Value.string (ba l)).toArray 9) = W at *
    generalize w2.heap.size = g at *
    by_cases h2 : 2 ≤ F.length
    · have hx := List.getElem?_eq_getElem (show 0 < F.length by omega)
      have HD : Hid (F.getD 0 [] = F[0]) := Lib.hid (by simp [List.getD, hx])
      have hd2 : decide (2 ≤ F.length) = true := by simpa using h2
      have hdl : (F.tail).length = F.length - 1 := List.length_tail
      have HDo : Hid (off (F.tail) ≤ 2097152) := Lib.hid (Nat.le_trans (off_drop1 F) hoff)
      generalize F[0] = x at *
      have hc0 : W.cell? ⟨g, 0, none⟩ = some (.string (ba x)) := by
        obtain ⟨g', o', e, hc⟩ := hr 0 x hx
        simp at e
        obtain ⟨rfl, rfl⟩ := e
        exact hc
      clear hx
      cases ha : artB x with
      | true =>
        have HA := Lib.hid (fun w => article_i x true ha w)
        have HE : Hid (srt F = F.tail) := Lib.hid (by unfold srt; rw [if_pos ⟨h2, by rw [HD.out]; exact ha⟩])
        have HJ := Lib.hid (join_any (some ⟨g, 0 + 1, none⟩) (F.length - 1) (F.length - 1) (F.tail) W (Rd.drop1 hr) (fun a h => by cases h; exact hg3) hdl (Nat.le_refl _) HDo.out)
        have hcc : 1 < F.length := by omega
        clear ha hdl
        go_wp2_with fail
        refine (HA.out _).mono ?_
        rintro e w' ⟨rfl, rfl⟩
        go_wp2_with fail
        with_reducible refine HJ.out.mono ?_
        rintro e w5 ⟨rfl, b5⟩
        go_wp2_with fail
        go_ret2
        exact ⟨by rw [HE0.out, HE.out]; rfl, hb3.trans (b5.mono hb3.size)⟩
      | false =>
        have HA := Lib.hid (fun w => article_i x false ha w)
        have HE : Hid (srt F = F) := Lib.hid (by unfold srt; rw [if_neg (fun h => by have := h.2; rw [HD.out, ha] at this; cases this)])
        have HJ := Lib.hid (join_any (some ⟨g, 0, none⟩) F.length F.length F W hr (fun a h => by cases h; exact hg3) rfl (Nat.le_refl _) hoff)
        clear ha hdl
        go_wp2_with fail
        refine (HA.out _).mono ?_
        rintro e w' ⟨rfl, rfl⟩
        go_wp2_with fail
        with_reducible refine HJ.out.mono ?_
        rintro e w5 ⟨rfl, b5⟩
        go_wp2_with fail
        go_ret2
        exact ⟨by rw [HE0.out, HE.out]; rfl, hb3.trans (b5.mono hb3.size)⟩
    · have hd2 : decide (2 ≤ F.length) = false := by simpa using h2
      have HE : Hid (srt F = F) := Lib.hid (by unfold srt; rw [if_neg (fun h => h2 h.1)])
      have HJ := Lib.hid (join_any (some ⟨g, 0, none⟩) F.length F.length F W hr (fun a h => by cases h; exact hg3) rfl (Nat.le_refl _) hoff)
      go_wp2_with fail
      with_reducible refine HJ.out.mono ?_
      rintro e w5 ⟨rfl, b5⟩
      go_wp2_with fail
      go_ret2
      exact ⟨by rw [HE0.out, HE.out]; rfl, hb3.trans (b5.mono hb3.size)⟩
end Go.Proofs.YtobjfmchnlnohaaGreatDoor.So
