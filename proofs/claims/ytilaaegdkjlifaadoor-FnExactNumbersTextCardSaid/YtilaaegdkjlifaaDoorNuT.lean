/-
  The text of numbers in the model: l13Text, l13Numbers, NumbersText.
-/
import Derived.Test.YtilaaegdkjlifaaDoorNuH
import Derived.Test.YtilaaegdkjlifaaDoorNumS
import Derived.Test.YtilaaegdkjlifaaDoorL1In
namespace Go.Proofs.YtilaaegdkjlifaaDoor.Nu
open Go.RowKit Pl NuPl Kpz ReadPl
open Num (l1Num_any)
set_option linter.unusedSimpArgs false
set_option linter.unusedVariables false

theorem num_s (a : Int) (w : World) (h0 : 1 ≤ a) (h1 : a ≤ 999) : Calls Tryd.prog 24 #[.int .i64 a] w fun e w' => e = .returned (.string (ba (Lib.itoa a))) ∧ Kp w w' :=
  (l1Num_any a w (by omega) (by omega)).mono fun _ _ h => ⟨h.1, by obtain ⟨q, hq⟩ := h.2; rw [hq]; exact kdn (kre _) q⟩
theorem itoa3 {a : Int} (h0 : 1 ≤ a) (h1 : a ≤ 999) : (ba (Lib.itoa a)).size ≤ 3 := by
  rw [ba_size, itoa_pos h0]; exact dec_le 2 _ (by omega)
theorem cat_ba (a b : ByteArray) : (a ++ b).data.toList = a.data.toList ++ b.data.toList := by simp
theorem eq_ba {a : ByteArray} {l : List UInt8} (h : a.data.toList = l) : a = ba l := by rw [← h, ba_toList]
theorem J_ne {P : List Pc} (hP : ∀ x ∈ P, okP x) (h : P ≠ []) : PcPl.J T P ≠ [] := by
  cases P with
  | nil => exact absurd rfl h
  | cons x r =>
    intro e
    rw [PcPl.J, List.map_cons, Lib.join_cons] at e
    have h2 : T x = [] := (List.append_eq_nil_iff.1 e).1
    have hx := hP x List.mem_cons_self
    have h3 : Lib.itoa x.1 = [] := by
      unfold T at h2
      split at h2
      · exact h2
      · simp at h2
    rw [itoa_pos hx.1] at h3
    exact dec_ne _ h3
theorem ne_str {s : ByteArray} (h : 0 < s.size) : (s.toList == []) = false ∧ s.toList.isEmpty = false := by
  have hn : s.data.toList ≠ [] := by intro e; have := len_size s; rw [e] at this; simp at this; omega
  rw [Lib.toList_data]
  exact ⟨by rw [beq_eq_false_iff_ne]; exact hn, List.isEmpty_eq_false_iff.2 hn⟩
theorem one45 : (ByteArray.mk #[45]).size = 1 := rfl
theorem two44 : (ByteArray.mk #[44, 32]).size = 2 := rfl
/-- a piece more behind a text -/
theorem more_text {P : List Pc} {o q : ByteArray} {x : Pc} (hP : o.data.toList = PcPl.J T P) (hq : q.data.toList = T x) (h : P ≠ []) : ((o ++ (⟨#[44, 32]⟩ : ByteArray)) ++ q).data.toList = PcPl.J T (P ++ [x]) := by
  rw [J_snoc h, cat_ba, cat_ba, hP, hq]
set_option maxRecDepth 100000 in
set_option maxHeartbeats 8000000 in
theorem text_s (A : Option Addr) (c n : Nat) (L : List Int) (w : World) (h : RdI w A L) (hn : L.length = n) (hm : n ≤ 20) (hr : ∀ x ∈ L, 1 ≤ x ∧ x ≤ 999) :
    Calls Tryd.prog 15 #[.slice A n c] w fun e w' => e = .returned (.string (ba (txt L))) ∧ Kp w w' := by
  have H := Lib.hid h
  have HN := Lib.hid hn
  have HR := Lib.hid hr
  have HOk := Lib.hid (pcs_ok _ L rfl hr (by omega))
  clear h hn hr
  go_enter Tryd.func15, Tryd.ntmps15
  go_wp2_with fail
  go_loopw [3, 4] (fun v i wr => ∃ (k : Nat) (P : List Pc) (o : ByteArray), k ≤ n ∧ i = .int .i64 k ∧ v = .string o ∧ Hid (o.data.toList = PcPl.J T P) ∧ Hid (P ++ pcs (L.drop k) = pcs L) ∧ o.size ≤ 9 * k ∧ Kp w wr) (fun _ i _ => n - (intOf i).toNat)
  case atStart => exact ⟨0, [], ⟨#[]⟩, Nat.zero_le _, rfl, rfl, Lib.hid rfl, Lib.hid rfl, by simp [ByteArray.size], kre _⟩
  case round =>
    obtain ⟨k, P, o, hk, rfl, rfl, HO, HP, ho, hb⟩ := hrel
    rename World => wo
    by_cases hlt : k < n
    · obtain ⟨a, ha⟩ : ∃ a, L[k]? = some a := ⟨_, List.getElem?_eq_getElem (by rw [HN.out]; exact hlt)⟩
      obtain ⟨ha1, ha2⟩ := HR.out a (List.mem_of_getElem? ha)
      obtain ⟨g, of, rfl, c0⟩ := (H.out.kp hb) k a ha
      have HAt := Lib.hid (run_at ha)
      have HEnd := Lib.hid (run_end ha)
      have HLong := Lib.hid (pcs_at_long ha)
      have HShort := Lib.hid (pcs_at_short ha)
      have hle := run_le ha
      rw [HN.out] at hle
      clear ha
      generalize run1 a (L.drop (k + 1)) = m at *
      go_wp2_with fail
      go_loopw [5] (fun j wr => ∃ q : Nat, k ≤ q ∧ q ≤ k + m ∧ j = .int .i64 q ∧ Kp w wr) (fun j _ => n - (intOf j).toNat)
      case atStart => exact ⟨k, Nat.le_refl _, by omega, rfl, hb⟩
      case round =>
        clear hb c0
        obtain ⟨q, hq1, hq2, rfl, hb⟩ := hrel
        have hq := HAt.out (q - k) (by omega)
        rw [show k + (q - k) = q by omega] at hq
        obtain ⟨x, hx⟩ : ∃ x, a + ((q - k : Nat) : Int) = x := ⟨_, rfl⟩
        rw [hx] at hq
        obtain ⟨hx1, hx2⟩ := HR.out x (List.mem_of_getElem? hq)
        have cq := ((H.out.kp hb) q x hq).elim fun g' h' => by obtain ⟨o', e', hc'⟩ := h'; cases e'; exact hc'
        have hw1 : IntKind.i64.wrap (x + 1) = x + 1 := IntWalk.i64_in _ (by omega)
        by_cases hend : q = k + m
        · -- the run ends here
          have HEq := Lib.hid hend
          have hstop : ¬ (q + 1 < n ∧ L[q + 1]? = some (x + 1)) := fun hh => HEnd.out (by
            rw [← HEq.out, hh.2]; congr 1; omega)
          have HXm : Hid (x = a + (m : Int)) := Lib.hid (by rw [← hx]; omega)
          have hcond : (decide (((q : Int) + 1) < (n : Int)) = false ∧ ¬ (q + 1 < n)) ∨ (decide (((q : Int) + 1) < (n : Int)) = true ∧ q + 1 < n ∧ ∃ y : Int, wr.cell? ⟨g, of + (q + 1), none⟩ = some (.int .i64 y) ∧ (y == x + 1) = false) := by
            by_cases hqn : q + 1 < n
            · right
              obtain ⟨y, hy⟩ : ∃ y, L[q + 1]? = some y := ⟨_, List.getElem?_eq_getElem (by rw [HN.out]; exact hqn)⟩
              have cy := ((H.out.kp hb) (q + 1) y hy).elim fun g' h' => by obtain ⟨o', e', hc'⟩ := h'; cases e'; exact hc'
              refine ⟨by simp; omega, hqn, y, cy, ?_⟩
              rw [beq_eq_false_iff_ne]
              intro e
              exact hstop ⟨hqn, by rw [hy, e]⟩
            · exact .inl ⟨by simp; omega, hqn⟩
          have hqs : q < n := by omega
          have hqk : k ≤ q := hq1
          have ck : wr.cell? ⟨g, of + k, none⟩ = some (.int .i64 a) := by
            have hk0 := HAt.out 0 (by omega)
            rw [Nat.add_zero] at hk0
            have := ((H.out.kp hb) k _ hk0).elim fun g' h' => by obtain ⟨o', e', hc'⟩ := h'; cases e'; exact hc'
            simpa using this
          have hgk := lt_cell ck
          have HW := Lib.hid (fun w => num_s a w ha1 ha2)
          have HW2 := Lib.hid (fun w => num_s x w hx1 hx2)
          have hia := itoa3 ha1 ha2
          have hix := itoa3 hx1 hx2
          have HTa : Hid ((ba (Lib.itoa a)).data.toList = T (a, 0)) := Lib.hid (toList_ba _)
          have HTm : Hid (2 ≤ m → ((ba (Lib.itoa a) ++ (⟨#[45]⟩ : ByteArray)) ++ ba (Lib.itoa x)).data.toList = T (a, m)) := Lib.hid (fun h => by
            rw [T_long a m h, cat_ba, cat_ba, toList_ba, toList_ba, HXm.out]; simp)
          have HTm' : Hid (∀ r : ByteArray, 2 ≤ m → (((r ++ ba (Lib.itoa a)) ++ (⟨#[45]⟩ : ByteArray)) ++ ba (Lib.itoa x)).data.toList = r.data.toList ++ T (a, m)) := Lib.hid (fun r h => by
            rw [T_long a m h, cat_ba, cat_ba, cat_ba, toList_ba, toList_ba, HXm.out]; simp)
          clear hstop hq hx hend
          generalize ba (Lib.itoa a) = ta at *
          generalize ba (Lib.itoa x) = tx at *
          have hPc : (P = [] ∧ o = ⟨#[]⟩) ∨ (P ≠ [] ∧ 0 < o.size) := by
            by_cases hP0 : P = []
            · left
              refine ⟨hP0, ?_⟩
              rw [eq_ba HO.out, hP0]; rfl
            · right
              refine ⟨hP0, ?_⟩
              rcases Nat.eq_zero_or_pos o.size with h0 | h0
              · exfalso
                have h1 := J_ne (P := P) (fun y hy => HOk.out y (by rw [← HP.out]; exact List.mem_append_left _ hy)) hP0
                rw [← HO.out] at h1
                exact h1 (List.eq_nil_of_length_eq_zero (by rw [len_size]; exact h0))
              · exact h0
          have HHb := Lib.hid hb
          clear hb
          rcases hcond with ⟨hg1, hqn⟩ | ⟨hg1, hqn, y, cq', hy⟩
          all_goals
            rcases hPc with ⟨rfl, rfl⟩ | ⟨hP0, ho0⟩
            · by_cases hm2 : 2 ≤ m
              · have HN1 : Hid (((((⟨#[]⟩ : ByteArray) ++ ta) ++ (⟨#[45]⟩ : ByteArray)) ++ tx).data.toList = PcPl.J T ([] ++ [(a, m)])) := Lib.hid (by rw [List.nil_append, PcPl.J_one]; exact HTm'.out _ hm2)
                have HP1 : Hid (([] ++ [(a, m)]) ++ pcs (L.drop (q + 1)) = pcs L) := Lib.hid (by rw [← HP.out, HLong.out hm2, ← HEq.out]; exact List.append_assoc _ _ _)
                have hg2 : decide ((k : Int) + 1 < (q : Int)) = true := by have := HEq.out; simp; omega
                have hkq : k + 1 < q := by have := HEq.out; omega
                have hoz2 : ((⟨#[]⟩ : ByteArray) ++ ta).size = ta.size := by rw [ByteArray.size_append, show (⟨#[]⟩ : ByteArray).size = 0 from rfl, Nat.zero_add]
                have hoz3 : ((⟨#[]⟩ : ByteArray) ++ ta ++ (⟨#[45]⟩ : ByteArray)).size = ta.size + 1 := by rw [ByteArray.size_append, hoz2, one45]
                have hzz : ((((⟨#[]⟩ : ByteArray) ++ ta) ++ (⟨#[45]⟩ : ByteArray)) ++ tx).size ≤ 9 * (q + 1) := by rw [ByteArray.size_append, hoz3]; omega
                clear HP HO HLong HShort HTm HTa HAt HEnd HTm'
                go_wp2_with fail
                go_quiet (fail)
                have HB2 : Hid (Kp w (wr.drewN nq)) := Lib.hid (kdn HHb.out nq)
                have ck0 : (wr.drewN nq).cell? ⟨g, of + k, none⟩ = some (.int .i64 a) := ck
                have cq0 : (wr.drewN nq).cell? ⟨g, of + q, none⟩ = some (.int .i64 x) := cq
                have hg0 : g < (wr.drewN nq).heap.size := hgk
                clear ck cq hgk
                generalize wr.drewN nq = w0 at *
                go_wp2_with fail
                refine (HW.out _).mono ?_
                rintro e w1 ⟨rfl, b1⟩
                have HB3 := Lib.hid (ktr HB2.out b1)
                have cq1 := (b1.cell (p := ⟨g, of + q, none⟩) hg0).trans cq0
                clear b1 ck0 cq0
                go_wp2_with fail
                refine (HW2.out _).mono ?_
                rintro e w2 ⟨rfl, b2⟩
                have HB4 := Lib.hid (ktr HB3.out b2)
                clear b2 cq1
                go_wp2_with fail
                go_roundw
                case rel => exact ⟨q + 1, _, _, by omega, by go_num, rfl, HN1, HP1, hzz, HB4.out⟩
                case measure => (simp [intOf] <;> omega)
              · have HN1 : Hid (((⟨#[]⟩ : ByteArray) ++ ta).data.toList = PcPl.J T ([] ++ [(a, 0)])) := Lib.hid (by rw [List.nil_append, PcPl.J_one]; rw [cat_ba, HTa.out]; rfl)
                have HP1 : Hid (([] ++ [(a, 0)]) ++ pcs (L.drop (k + 1)) = pcs L) := Lib.hid (by rw [← HP.out, HShort.out (by omega)]; exact List.append_assoc _ _ _)
                have hg2 : decide ((k : Int) + 1 < (q : Int)) = false := by have := HEq.out; simp; omega
                have hkq : ¬ (k + 1 < q) := by have := HEq.out; omega
                have hoz2 : ((⟨#[]⟩ : ByteArray) ++ ta).size = ta.size := by rw [ByteArray.size_append, show (⟨#[]⟩ : ByteArray).size = 0 from rfl, Nat.zero_add]
                have hzz : ((⟨#[]⟩ : ByteArray) ++ ta).size ≤ 9 * (k + 1) := by rw [hoz2]; omega
                clear HP HO HLong HShort HTm HTa HAt HEnd HTm'
                go_wp2_with fail
                go_quiet (fail)
                have HB2 : Hid (Kp w (wr.drewN nq)) := Lib.hid (kdn HHb.out nq)
                have ck0 : (wr.drewN nq).cell? ⟨g, of + k, none⟩ = some (.int .i64 a) := ck
                have cq0 : (wr.drewN nq).cell? ⟨g, of + q, none⟩ = some (.int .i64 x) := cq
                have hg0 : g < (wr.drewN nq).heap.size := hgk
                clear ck cq hgk
                generalize wr.drewN nq = w0 at *
                go_wp2_with fail
                refine (HW.out _).mono ?_
                rintro e w1 ⟨rfl, b1⟩
                have HB3 := Lib.hid (ktr HB2.out b1)
                have cq1 := (b1.cell (p := ⟨g, of + q, none⟩) hg0).trans cq0
                clear b1 ck0 cq0
                go_wp2_with fail
                go_roundw
                case rel => exact ⟨k + 1, _, _, by omega, by go_num, rfl, HN1, HP1, hzz, HB3.out⟩
                case measure => (simp [intOf] <;> omega)
            · by_cases hm2 : 2 ≤ m
              · have HN1 : Hid (((((o ++ (⟨#[44, 32]⟩ : ByteArray)) ++ ta) ++ (⟨#[45]⟩ : ByteArray)) ++ tx).data.toList = PcPl.J T (P ++ [(a, m)])) := Lib.hid (by rw [J_snoc hP0]; rw [HTm'.out _ hm2, cat_ba, HO.out])
                have HP1 : Hid ((P ++ [(a, m)]) ++ pcs (L.drop (q + 1)) = pcs L) := Lib.hid (by rw [← HP.out, HLong.out hm2, ← HEq.out]; exact List.append_assoc _ _ _)
                have hg2 : decide ((k : Int) + 1 < (q : Int)) = true := by have := HEq.out; simp; omega
                have hkq : k + 1 < q := by have := HEq.out; omega
                obtain ⟨he1, he2⟩ := ne_str ho0
                have hoz : (o ++ (⟨#[44, 32]⟩ : ByteArray)).size = o.size + 2 := by rw [ByteArray.size_append, two44]
                have hoz2 : (o ++ (⟨#[44, 32]⟩ : ByteArray) ++ ta).size = o.size + 2 + ta.size := by rw [ByteArray.size_append, hoz]
                have hoz3 : (o ++ (⟨#[44, 32]⟩ : ByteArray) ++ ta ++ (⟨#[45]⟩ : ByteArray)).size = o.size + 2 + ta.size + 1 := by rw [ByteArray.size_append, hoz2, one45]
                have hzz : ((((o ++ (⟨#[44, 32]⟩ : ByteArray)) ++ ta) ++ (⟨#[45]⟩ : ByteArray)) ++ tx).size ≤ 9 * (q + 1) := by rw [ByteArray.size_append, hoz3]; omega
                clear HP HO HLong HShort HTm HTa HAt HEnd HTm'
                go_wp2_with fail
                go_quiet (fail)
                have HB2 : Hid (Kp w (wr.drewN nq)) := Lib.hid (kdn HHb.out nq)
                have ck0 : (wr.drewN nq).cell? ⟨g, of + k, none⟩ = some (.int .i64 a) := ck
                have cq0 : (wr.drewN nq).cell? ⟨g, of + q, none⟩ = some (.int .i64 x) := cq
                have hg0 : g < (wr.drewN nq).heap.size := hgk
                clear ck cq hgk
                generalize wr.drewN nq = w0 at *
                go_wp2_with fail
                refine (HW.out _).mono ?_
                rintro e w1 ⟨rfl, b1⟩
                have HB3 := Lib.hid (ktr HB2.out b1)
                have cq1 := (b1.cell (p := ⟨g, of + q, none⟩) hg0).trans cq0
                clear b1 ck0 cq0
                go_wp2_with fail
                refine (HW2.out _).mono ?_
                rintro e w2 ⟨rfl, b2⟩
                have HB4 := Lib.hid (ktr HB3.out b2)
                clear b2 cq1
                go_wp2_with fail
                go_roundw
                case rel => exact ⟨q + 1, _, _, by omega, by go_num, rfl, HN1, HP1, hzz, HB4.out⟩
                case measure => (simp [intOf] <;> omega)
              · have HN1 : Hid (((o ++ (⟨#[44, 32]⟩ : ByteArray)) ++ ta).data.toList = PcPl.J T (P ++ [(a, 0)])) := Lib.hid (by rw [J_snoc hP0]; rw [cat_ba, cat_ba, HO.out, HTa.out])
                have HP1 : Hid ((P ++ [(a, 0)]) ++ pcs (L.drop (k + 1)) = pcs L) := Lib.hid (by rw [← HP.out, HShort.out (by omega)]; exact List.append_assoc _ _ _)
                have hg2 : decide ((k : Int) + 1 < (q : Int)) = false := by have := HEq.out; simp; omega
                have hkq : ¬ (k + 1 < q) := by have := HEq.out; omega
                obtain ⟨he1, he2⟩ := ne_str ho0
                have hoz : (o ++ (⟨#[44, 32]⟩ : ByteArray)).size = o.size + 2 := by rw [ByteArray.size_append, two44]
                have hoz2 : (o ++ (⟨#[44, 32]⟩ : ByteArray) ++ ta).size = o.size + 2 + ta.size := by rw [ByteArray.size_append, hoz]
                have hzz : ((o ++ (⟨#[44, 32]⟩ : ByteArray)) ++ ta).size ≤ 9 * (k + 1) := by rw [ByteArray.size_append, hoz]; omega
                clear HP HO HLong HShort HTm HTa HAt HEnd HTm'
                go_wp2_with fail
                go_quiet (fail)
                have HB2 : Hid (Kp w (wr.drewN nq)) := Lib.hid (kdn HHb.out nq)
                have ck0 : (wr.drewN nq).cell? ⟨g, of + k, none⟩ = some (.int .i64 a) := ck
                have cq0 : (wr.drewN nq).cell? ⟨g, of + q, none⟩ = some (.int .i64 x) := cq
                have hg0 : g < (wr.drewN nq).heap.size := hgk
                clear ck cq hgk
                generalize wr.drewN nq = w0 at *
                go_wp2_with fail
                refine (HW.out _).mono ?_
                rintro e w1 ⟨rfl, b1⟩
                have HB3 := Lib.hid (ktr HB2.out b1)
                have cq1 := (b1.cell (p := ⟨g, of + q, none⟩) hg0).trans cq0
                clear b1 ck0 cq0
                go_wp2_with fail
                go_roundw
                case rel => exact ⟨k + 1, _, _, by omega, by go_num, rfl, HN1, HP1, hzz, HB3.out⟩
                case measure => (simp [intOf] <;> omega)
        · -- one more
          have hq' := HAt.out (q + 1 - k) (by omega)
          rw [show k + (q + 1 - k) = q + 1 by omega, show a + ((q + 1 - k : Nat) : Int) = x + 1 by omega] at hq'
          have cq' := ((H.out.kp hb) (q + 1) (x + 1) hq').elim fun g' h' => by obtain ⟨o', e', hc'⟩ := h'; cases e'; exact hc'
          have hqn : q + 1 < n := by omega
          have hqs : q < n := by omega
          have hg1 : decide (((q : Int) + 1) < (n : Int)) = true := by simp; omega
          clear hq hq' hx
          go_wp2_with fail
          go_quiet (fail)
          go_wp2_with fail
          go_roundw
          case rel => exact ⟨q + 1, by omega, by omega, by go_num, kdn hb _⟩
          case measure => (simp [intOf] <;> omega)
    · have HE : Hid (o = ba (txt L)) := Lib.hid (eq_ba (by
        have := HP.out
        rw [List.drop_eq_nil_of_le (by rw [HN.out]; omega), pcs_nil, List.append_nil] at this
        rw [HO.out, this]; rfl))
      go_wp2_with fail
      go_ret
      exact ⟨by rw [HE.out]; rfl, hb⟩
end Go.Proofs.YtilaaegdkjlifaaDoor.Nu
