/- Walk over the statement BitsNames. -/
import Derived.Test.YtecfjjpdlohmnaaDoorBitHelp
import Derived.WalkLawsBesides
namespace Go.Proofs.YtecfjjpdlohmnaaDoor.SetNamesW
open Go.RowKit Go.Lib SetP SetO SetNum SetIn SetWith SetT SetW2 SetF SetG SetC SetSame BitCheck BitHas BitOnes BitTz BitList BitSame BitClone BitOf BitOr BitOps BitHelp

theorem n1 : ofE [1048576] = 2 := by decide +kernel
theorem n2 : ofE [-1] = 2 := by decide +kernel
theorem n3 : hasE (ofS [1]) 1048576 = 2 := by decide +kernel
theorem n4 : togE [(0, 0)] [] = 8 := by decide +kernel
theorem n5 : togE [] [(16384, 1)] = 8 := by decide +kernel
theorem n6 : sizeI (ofS [1048575, 0, 5]) = 3 := by decide +kernel
theorem n7 : chk [(1, 1), (1, 2)] = 8 := by decide +kernel
theorem n8 : chk [(-1, 1)] = 8 := by decide +kernel
theorem ok_nil : ∀ x ∈ ([] : List Wd), WdOk x := fun x hx => by cases hx
theorem ok4 : ∀ x ∈ ([(0, 0)] : List Wd), WdOk x := fun x hx => by rw [List.mem_singleton.1 hx]; exact ⟨by decide, by decide, by decide, by decide⟩
theorem ok5 : ∀ x ∈ ([(16384, 1)] : List Wd), WdOk x := fun x hx => by rw [List.mem_singleton.1 hx]; exact ⟨by decide, by decide, by decide, by decide⟩
theorem ok8 : ∀ x ∈ ([(-1, 1)] : List Wd), WdOk x := fun x hx => by rw [List.mem_singleton.1 hx]; exact ⟨by decide, by decide, by decide, by decide⟩
theorem ok7 : ∀ x ∈ ([(1, 1), (1, 2)] : List Wd), WdOk x := fun x hx => by
  rcases List.mem_cons.1 hx with rfl | hx
  · exact ⟨by decide, by decide, by decide, by decide⟩
  · rw [List.mem_singleton.1 hx]; exact ⟨by decide, by decide, by decide, by decide⟩

set_option maxRecDepth 100000 in
set_option maxHeartbeats 8000000 in
theorem walk (w : World) (ht : Tab w) :
    Calls Tryd.prog 3 #[] w fun e w' => e = .returned (.bool true) ∧ Below w.heap.size w w' := by
  have HT := hid ht
  clear ht
  have C0 := hid (Below.refl w.heap.size w)
  go_enter Tryd.func3, Tryd.ntmps3
  have nb1 : Below w.heap.size w (w.alloc (.cells #[.int .i64 1048576] 3)) := (Below.refl _ _).alloc (Nat.le_refl _) _
  have NB1 := hid nb1
  clear nb1
  go_wp2_with fail
  refine (BitOf.of_calls _ _ _ (ints_new [1048576] (by decide) w)).mono ?_
  rw [n1]
  rintro e w1 ⟨v1, n1', rfl, own, b1⟩
  have d1 := NB1.out.trans (b1.mono NB1.out.size)
  have C1 := hid (C0.out.trans (d1.mono C0.out.size))
  clear C0
  clear b1 d1 NB1
  clear own
  have nb2 : Below w1.heap.size w1 (w1.alloc (.cells #[.int .i64 (-1)] 3)) := (Below.refl _ _).alloc (Nat.le_refl _) _
  have NB2 := hid nb2
  clear nb2
  go_wp2_with fail
  refine (BitOf.of_calls _ _ _ (ints_new [-1] (by decide) w1)).mono ?_
  rw [n2]
  rintro e w2 ⟨v2, n2', rfl, own, b2⟩
  have d2 := NB2.out.trans (b2.mono NB2.out.size)
  have C2 := hid (C1.out.trans (d2.mono C1.out.size))
  clear C1
  clear b2 d2 NB2
  clear own
  have nb3 : Below w2.heap.size w2 (w2.alloc (.cells #[.int .i64 1] 3)) := (Below.refl _ _).alloc (Nat.le_refl _) _
  have NB3 := hid nb3
  clear nb3
  go_wp2_with fail
  refine (of_help _ _ _ (ints_new [1] (by decide) w2)).mono ?_
  rintro e w3 ⟨v3, n3', rfl, own, b3⟩
  have d3 := NB3.out.trans (b3.mono NB3.out.size)
  have C3 := hid (C2.out.trans (d3.mono C2.out.size))
  clear C2
  have Sa_3 := hid (set_own own (of_may _))
  clear own
  clear b3 d3 NB3
  go_wp2_with fail
  refine (BitHas.has_calls v3 _ 1048576 w3 Sa_3.out (wok (of_may _).win)).mono ?_
  rw [n3]
  rintro e w4 ⟨rfl, b4⟩
  have Sa_4 := hid (Sa_3.out.below b4)
  have C4 := hid (C3.out.trans (b4.mono C3.out.size))
  clear C3 Sa_3
  clear b4
  clear Sa_4
  generalize hasB (ofS [1]) 1048576 = p4
  have nb5 : Below w4.heap.size w4 (w4.alloc (.cells #[.int .i64 0, .int .u64 0] 34)) := (Below.refl _ _).alloc (Nat.le_refl _) _
  have NB5 := hid nb5
  clear nb5
  go_wp2_with fail
  refine (BitOr.or_calls _ (.slice none 0 0) _ [] _ (set_new [(0, 0)] (by decide) w4) (set_nil _) ok4 ok_nil).mono ?_
  rw [n4]
  rintro e w5 ⟨v5, n5', rfl, own, b5⟩
  have d5 := NB5.out.trans (b5.mono NB5.out.size)
  have C5 := hid (C4.out.trans (d5.mono C4.out.size))
  clear C4
  clear b5 d5 NB5
  clear own
  have nb6 : Below w5.heap.size w5 (w5.alloc (.cells #[.int .i64 16384, .int .u64 1] 34)) := (Below.refl _ _).alloc (Nat.le_refl _) _
  have NB6 := hid nb6
  clear nb6
  go_wp2_with fail
  refine (BitOr.and_calls (.slice none 0 0) _ [] _ _ (set_nil _) (set_new [(16384, 1)] (by decide) w5) ok_nil ok5).mono ?_
  rw [n5]
  rintro e w6 ⟨v6, n6', rfl, own, b6⟩
  have d6 := NB6.out.trans (b6.mono NB6.out.size)
  have C6 := hid (C5.out.trans (d6.mono C5.out.size))
  clear C5
  clear b6 d6 NB6
  clear own
  have nb7 : Below w6.heap.size w6 (w6.alloc (.cells #[.int .i64 1048575, .int .i64 0, .int .i64 5] 3)) := (Below.refl _ _).alloc (Nat.le_refl _) _
  have NB7 := hid nb7
  clear nb7
  go_wp2_with fail
  refine (of_help _ _ _ (ints_new [1048575, 0, 5] (by decide) w6)).mono ?_
  rintro e w7 ⟨v7, n7', rfl, own, b7⟩
  have d7 := NB7.out.trans (b7.mono NB7.out.size)
  have C7 := hid (C6.out.trans (d7.mono C6.out.size))
  clear C6
  have Sb_7 := hid (set_own own (of_may _))
  clear own
  clear b7 d7 NB7
  go_wp2_with fail
  refine (BitOnes.size_calls v7 _ w7 Sb_7.out (wok (of_may _).win)).mono ?_
  rw [n6, chk_yes (of_may _)]
  rintro e w8 ⟨rfl, b8⟩
  have Sb_8 := hid (Sb_7.out.below b8)
  have C8 := hid (C7.out.trans (b8.mono C7.out.size))
  clear C7 Sb_7
  clear b8
  clear Sb_8
  have nb9 : Below w8.heap.size w8 (w8.alloc (.cells #[.int .i64 1, .int .u64 1, .int .i64 1, .int .u64 2] 34)) := (Below.refl _ _).alloc (Nat.le_refl _) _
  have NB9 := hid nb9
  clear nb9
  go_wp2_with fail
  refine (BitCheck.check_calls _ _ _ (set_new [(1, 1), (1, 2)] (by decide) w8) ok7).mono ?_
  rw [n7]
  rintro e w9 ⟨rfl, b9⟩
  have d9 := NB9.out.trans (b9.mono NB9.out.size)
  have C9 := hid (C8.out.trans (d9.mono C8.out.size))
  clear C8
  clear b9 d9 NB9
  have nb10 : Below w9.heap.size w9 (w9.alloc (.cells #[.int .i64 (-1), .int .u64 1] 34)) := (Below.refl _ _).alloc (Nat.le_refl _) _
  have NB10 := hid nb10
  clear nb10
  go_wp2_with fail
  refine (BitCheck.check_calls _ _ _ (set_new [(-1, 1)] (by decide) w9) ok8).mono ?_
  rw [n8]
  rintro e w10 ⟨rfl, b10⟩
  have d10 := NB10.out.trans (b10.mono NB10.out.size)
  have C10 := hid (C9.out.trans (d10.mono C9.out.size))
  clear C9
  clear b10 d10 NB10
  go_wp2_with fail
  refine (alive_calls w10 (HT.out.on C10.out)).mono ?_
  rintro e w11 ⟨rfl, b11⟩
  have C11 := hid (C10.out.trans (b11.mono C10.out.size))
  clear C10
  clear b11
  go_wp2_with fail
  refine (are_yes (.slice none 0 0) (.slice none 0 0) [] [] w11 (set_nil _) mayw_nil (ints_nil _) (HT.out.on C11.out) rfl).mono ?_
  rintro e w12 ⟨rfl, b12⟩
  have C12 := hid (C11.out.trans (b12.mono C11.out.size))
  clear C11
  clear b12
  go_wp2
  go_ret
  exact ⟨rfl, C12.out⟩
end Go.Proofs.YtecfjjpdlohmnaaDoor.SetNamesW
