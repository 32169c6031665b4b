/- Walks over fescuelaw04.chapter and alive. -/
import Derived.Test.YtindpgejnaofkaaFlT
import Derived.Test.YtindpgejnaofkaaTyLG
import Derived.Test.YtindpgejnaofkaaTyRE
namespace Go.Proofs.Ytindpgejnaofkaa.FlLA
open Go.RowKit Go.Lib Go.Shelf SetP IntO TyM TyP TyB TyC TyD TyE TyS TyF TyH TyK TyQ TyW TyRE TyLA FlM FlQ FlW FlX FlF FlG

/-- the chapter's table -/
def chapF : List Ty := [⟨1, 0, 0, []⟩, ⟨2, 2, 0, []⟩, ⟨4, 0, 0, [0, 1]⟩, ⟨5, 2, 2, []⟩, ⟨4, 0, 0, [3, 0]⟩]
/-- its cells -/
def chapCells (n : Nat) : Array Value := #[.int .u8 1, .int .i64 0, .int .i64 0, .slice none 0 0, .int .u8 2, .int .i64 2, .int .i64 0, .slice none 0 0, .int .u8 4, .int .i64 0, .int .i64 0, .slice (some ⟨n, 0, none⟩) 2 2, .int .u8 5, .int .i64 2, .int .i64 2, .slice none 0 0, .int .u8 4, .int .i64 0, .int .i64 0, .slice (some ⟨n + 1, 0, none⟩) 2 2]

set_option maxHeartbeats 400000 in
theorem chapter_calls (w : World) : Calls Try.prog 8 #[] w (TysR chapF w) := by
  have hb : Below w.heap.size w (((w.alloc (.cells #[.int .i64 0, .int .i64 1] 3)).alloc (.cells #[.int .i64 3, .int .i64 0] 3)).alloc (.cells (chapCells w.heap.size) 43)) := (((Below.refl _ _).alloc (Nat.le_refl _) _).alloc (by simp) _).alloc (by simp; omega) _
  have h0 := alloc_old (alloc_old (alloc_new w (.cells #[.int .i64 0, .int .i64 1] 3)) (.cells #[.int .i64 3, .int .i64 0] 3)) (.cells (chapCells w.heap.size) 43)
  have h1 := alloc_old (alloc_new (w.alloc (.cells #[.int .i64 0, .int .i64 1] 3)) (.cells #[.int .i64 3, .int .i64 0] 3)) (.cells (chapCells w.heap.size) 43)
  have h2 := alloc_new ((w.alloc (.cells #[.int .i64 0, .int .i64 1] 3)).alloc (.cells #[.int .i64 3, .int .i64 0] 3)) (.cells (chapCells w.heap.size) 43)
  rw [World.size_alloc] at h1
  rw [World.size_alloc, World.size_alloc] at h2
  have H0 := hid h0
  have H1 := hid h1
  have H2 := hid h2
  have HB := hid hb
  clear h0 h1 h2 hb
  go_enter Try.func8, Try.ntmps8
  go_wp2
  go_ret
  refine ⟨.slice (some ⟨w.heap.size + 1 + 1, 0, none⟩) 5 5, rfl, ?_, HB.out⟩
  refine tys_block (r := [(⟨1, 0, 0, []⟩, .slice none 0 0), (⟨2, 2, 0, []⟩, .slice none 0 0), (⟨4, 0, 0, [0, 1]⟩, .slice (some ⟨w.heap.size, 0, none⟩) 2 2), (⟨5, 2, 2, []⟩, .slice none 0 0), (⟨4, 0, 0, [3, 0]⟩, .slice (some ⟨w.heap.size + 1, 0, none⟩) 2 2)]) H2.out rfl ?_ (by simp)
  intro x hx
  simp only [List.mem_cons, List.not_mem_nil, or_false] at hx
  rcases hx with rfl | rfl | rfl | rfl | rfl
  · exact ints_none _
  · exact ints_none _
  · exact ints_block (l := [0, 1]) H0.out rfl (by simp)
  · exact ints_none _
  · exact ints_block (l := [3, 0]) H1.out rfl (by simp)

theorem chapA : askT chapF 3 = 0 ∧ flatT chapF 3 = [0, 1] ∧ askT chapF 4 = 0 ∧ flatT chapF 4 = [0, 1, 0] ∧ partE chapF 4 1 = 0 ∧ stepTy chapF 4 1 = 2 := by decide +kernel
theorem chapB : ∀ i : Nat, i < 4 → flatE chapF 3 i = 0 ∧ flatC chapF 3 i = ((i % 2 : Nat) : Int) := by decide +kernel
/-- a list in memory, its first cell aside -/
theorem owner_ints {w : World} {B m : Nat} {v : Value} {l : List Int} (h : w.ownsRow B 3 1 v m (intVals l)) (hl : l.length ≤ 1000) : ∃ a c, v = .slice a l.length c ∧ IntsAt w (.slice a l.length c) l := by
  have hi := intsAt_of_owns h (by omega)
  obtain rfl := own_len h
  obtain ⟨a, c, rfl⟩ := own_slice h
  exact ⟨a, c, rfl, hi⟩

set_option maxHeartbeats 1000000 in
theorem alive_calls (w : World) : Calls Try.prog 11 #[] w (BoolR true w) := by
  obtain ⟨q1, q2, q3, q4, q5, q6⟩ := chapA
  have HCH := hid chapter_calls
  have HF3 := hid (fun v wx (h : TysAt wx v chapF) => fields_calls chapF v 3 wx h)
  have HF4 := hid (fun v wx (h : TysAt wx v chapF) => fields_calls chapF v 4 wx h)
  have HST := hid (fun v wx (h : TysAt wx v chapF) => step_calls chapF v 4 1 wx h)
  have HFL := hid (fun (i : Nat) (hi : i < 4) v wx (h : TysAt wx v chapF) => by
    have := flat_calls chapF v 3 i wx h
    rw [(chapB i hi).1, (chapB i hi).2] at this
    exact this)
  rw [q1, q2] at HF3
  rw [q3, q4] at HF4
  rw [q5, q6] at HST
  clear q1 q2 q3 q4 q5 q6
  go_enter Try.func11, Try.ntmps11
  go_wp2_with fail
  refine (HCH.out _).mono ?_
  rintro e w1 ⟨v1, rfl, h1, hb1⟩
  have HC1 := hid (HF3.out v1 w1 h1)
  clear h1
  go_wp2_with fail
  refine HC1.out.mono ?_
  rintro e w2 ⟨u, m, rfl, hu, hb2⟩
  have hbe2 := hb1.trans (hb2.mono hb1.size)
  obtain ⟨ua, uc, rfl, hui⟩ := owner_ints hu (by simp)
  have HU := hid hui
  clear hu hui hb1 hb2 HC1
  go_wp2_with fail
  refine (HCH.out _).mono ?_
  rintro e w3 ⟨v2, rfl, h2, hb3⟩
  have hbe3 := hbe2.trans (hb3.mono hbe2.size)
  have HU3 := hid (HU.out.below hb3)
  have HC2 := hid (HF4.out v2 w3 h2)
  clear h2 hbe2 hb3
  go_wp2_with fail
  refine HC2.out.mono ?_
  rintro e w4 ⟨y, m2, rfl, hy, hb4⟩
  have hbe4 := hbe3.trans (hb4.mono hbe3.size)
  obtain ⟨ya, yc, rfl, hyi⟩ := owner_ints hy (by simp)
  have HU4 := hid (HU3.out.below hb4)
  have HY4 := hid hyi
  clear hy hyi hb4 hbe3 HC2
  go_wp2_with fail
  refine (HCH.out _).mono ?_
  rintro e w5 ⟨v3, rfl, h3, hb5⟩
  have hbe5 := hbe4.trans (hb5.mono hbe4.size)
  have HU5 := hid (HU4.out.below hb5)
  have HY5 := hid (HY4.out.below hb5)
  have HC3 := hid (HST.out v3 w5 h3)
  clear h3 hb5 hbe4
  go_wp2_with fail
  refine HC3.out.mono ?_
  rintro e w6 ⟨rfl, hb6⟩
  have hbe6 := hbe5.trans (hb6.mono hbe5.size)
  have HU6 := hid (HU5.out.below hb6)
  have HY6 := hid (HY5.out.below hb6)
  clear hb6 hbe5 HC3 HU HU3 HU4 HU5 HY4 HY5 HF3 HF4 HST
  go_wp2
  go_loopg [7, 8] 4 (fun gk is iv wr => ∃ i : Nat, i + gk = 4 ∧ iv = .int .i64 i ∧ is = .bool true ∧ Below w6.heap.size w6 wr)
  case atStart => exact ⟨0, by omega, rfl, rfl, Below.refl _ _⟩
  case round =>
    obtain ⟨i, hi, rfl, rfl, hbr⟩ := hrel
    have HI := hid hi
    clear hi
    by_cases hlt : i < 4
    · have hlti : (i : Int) < 4 := by omega
      have HFI := hid (HFL.out i hlt)
      go_wp2_with fail
      refine (HCH.out _).mono ?_
      rintro e w7 ⟨v4, rfl, h4, hb7⟩
      have hbr7 := hbr.trans (hb7.mono hbr.size)
      have HC4 := hid (HFI.out v4 w7 h4)
      clear h4 hb7 hbr
      go_wp2_with fail
      refine HC4.out.mono ?_
      rintro e w8 ⟨rfl, hb8⟩
      have hbr8 := hbr7.trans (hb8.mono hbr7.size)
      have hmod := tmod_nat i 2
      clear hb8 hbr7 HC4
      go_wp2
      go_roundg (gk - 1)
      case measure => have := HI.out; omega
      case rel => exact ⟨i + 1, by have := HI.out; omega, by go_num, by simp, hbr8⟩
    · obtain rfl : i = 4 := by have := HI.out; omega
      have hbe7 := hbe6.trans (hbr.mono hbe6.size)
      have hba : Below wr.heap.size wr (wr.alloc (.cells #[.int .i64 0, .int .i64 1] 3)) := (Below.refl _ _).alloc (Nat.le_refl _) _
      have HS1 := hid (sameInts_calls (.slice ua [(0 : Int), 1].length uc) (.slice (some ⟨wr.heap.size, 0, none⟩) 2 2) [0, 1] [0, 1] (wr.alloc (.cells #[.int .i64 0, .int .i64 1] 3)) ((HU6.out.below hbr).below hba) (ints_block (l := [0, 1]) (alloc_new wr (.cells #[.int .i64 0, .int .i64 1] 3)) rfl (by simp)))
      have HY7 := hid ((HY6.out.below hbr).below hba)
      have hbe8 := hbe7.trans (hba.mono hbe7.size)
      clear hbr hba hbe6 hbe7 HFL HCH HU6 HY6
      go_wp2_with fail
      refine HS1.out.mono ?_
      rintro e w8 ⟨rfl, hb8⟩
      have hba : Below w8.heap.size w8 (w8.alloc (.cells #[.int .i64 0, .int .i64 1, .int .i64 0] 3)) := (Below.refl _ _).alloc (Nat.le_refl _) _
      have HS2 := hid (sameInts_calls (.slice ya [(0 : Int), 1, 0].length yc) (.slice (some ⟨w8.heap.size, 0, none⟩) 3 3) [0, 1, 0] [0, 1, 0] (w8.alloc (.cells #[.int .i64 0, .int .i64 1, .int .i64 0] 3)) ((HY7.out.below hb8).below hba) (ints_block (l := [0, 1, 0]) (alloc_new w8 (.cells #[.int .i64 0, .int .i64 1, .int .i64 0] 3)) rfl (by simp)))
      have hbe9 := hbe8.trans (hb8.mono hbe8.size)
      have hbe10 := hbe9.trans (hba.mono hbe9.size)
      clear hb8 hba hbe8 hbe9 HS1 HY7
      go_wp2_with fail
      refine HS2.out.mono ?_
      rintro e w9 ⟨rfl, hb9⟩
      have hbe11 := hbe10.trans (hb9.mono hbe10.size)
      clear hb9 hbe10
      go_wp2
      go_ret
      exact ⟨rfl, hbe11⟩
end Go.Proofs.Ytindpgejnaofkaa.FlLA
