/- Walks over fescueref06.two, HasA, HasArgs, Answers. Walk over the reference's Uses. -/
import Derived.Test.YtimnjkdhcnhkoaaGreatDoorZShBToShDp
namespace Go.Proofs.YtimnjkdhcnhkoaaGreatDoor.ShB
open Go.RowKit Go.Lib SetP IntO TyM TyP TyB ShM ShP ShA

set_option maxHeartbeats 2000000 in
theorem two_calls (op : Int) (h0 : 0 ≤ op) (h2 : op ≤ 255) (w : World) : Calls Tryz.prog 101 #[.int .u8 op] w (PureR (twoB op) w) := by
  rcases op_list h0 with rfl | rfl | rfl | rfl | rfl | rfl | rfl | rfl | rfl | rfl | rfl | rfl | rfl | rfl | rfl | rfl | rfl | rfl | rfl | rfl | rfl | rfl | rfl | h
  · show Calls _ _ _ _ (PureR false w)
    go_enter Tryz.func101, Tryz.ntmps101
    go_wp2
    go_ret
    exact ⟨rfl, rfl⟩
  · show Calls _ _ _ _ (PureR false w)
    go_enter Tryz.func101, Tryz.ntmps101
    go_wp2
    go_ret
    exact ⟨rfl, rfl⟩
  · show Calls _ _ _ _ (PureR false w)
    go_enter Tryz.func101, Tryz.ntmps101
    go_wp2
    go_ret
    exact ⟨rfl, rfl⟩
  · show Calls _ _ _ _ (PureR false w)
    go_enter Tryz.func101, Tryz.ntmps101
    go_wp2
    go_ret
    exact ⟨rfl, rfl⟩
  · show Calls _ _ _ _ (PureR true w)
    go_enter Tryz.func101, Tryz.ntmps101
    go_wp2
    go_ret
    exact ⟨rfl, rfl⟩
  · show Calls _ _ _ _ (PureR true w)
    go_enter Tryz.func101, Tryz.ntmps101
    go_wp2
    go_ret
    exact ⟨rfl, rfl⟩
  · show Calls _ _ _ _ (PureR true w)
    go_enter Tryz.func101, Tryz.ntmps101
    go_wp2
    go_ret
    exact ⟨rfl, rfl⟩
  · show Calls _ _ _ _ (PureR true w)
    go_enter Tryz.func101, Tryz.ntmps101
    go_wp2
    go_ret
    exact ⟨rfl, rfl⟩
  · show Calls _ _ _ _ (PureR true w)
    go_enter Tryz.func101, Tryz.ntmps101
    go_wp2
    go_ret
    exact ⟨rfl, rfl⟩
  · show Calls _ _ _ _ (PureR true w)
    go_enter Tryz.func101, Tryz.ntmps101
    go_wp2
    go_ret
    exact ⟨rfl, rfl⟩
  · show Calls _ _ _ _ (PureR true w)
    go_enter Tryz.func101, Tryz.ntmps101
    go_wp2
    go_ret
    exact ⟨rfl, rfl⟩
  · show Calls _ _ _ _ (PureR false w)
    go_enter Tryz.func101, Tryz.ntmps101
    go_wp2
    go_ret
    exact ⟨rfl, rfl⟩
  · show Calls _ _ _ _ (PureR false w)
    go_enter Tryz.func101, Tryz.ntmps101
    go_wp2
    go_ret
    exact ⟨rfl, rfl⟩
  · show Calls _ _ _ _ (PureR false w)
    go_enter Tryz.func101, Tryz.ntmps101
    go_wp2
    go_ret
    exact ⟨rfl, rfl⟩
  · show Calls _ _ _ _ (PureR false w)
    go_enter Tryz.func101, Tryz.ntmps101
    go_wp2
    go_ret
    exact ⟨rfl, rfl⟩
  · show Calls _ _ _ _ (PureR true w)
    go_enter Tryz.func101, Tryz.ntmps101
    go_wp2
    go_ret
    exact ⟨rfl, rfl⟩
  · show Calls _ _ _ _ (PureR false w)
    go_enter Tryz.func101, Tryz.ntmps101
    go_wp2
    go_ret
    exact ⟨rfl, rfl⟩
  · show Calls _ _ _ _ (PureR true w)
    go_enter Tryz.func101, Tryz.ntmps101
    go_wp2
    go_ret
    exact ⟨rfl, rfl⟩
  · show Calls _ _ _ _ (PureR false w)
    go_enter Tryz.func101, Tryz.ntmps101
    go_wp2
    go_ret
    exact ⟨rfl, rfl⟩
  · show Calls _ _ _ _ (PureR false w)
    go_enter Tryz.func101, Tryz.ntmps101
    go_wp2
    go_ret
    exact ⟨rfl, rfl⟩
  · show Calls _ _ _ _ (PureR false w)
    go_enter Tryz.func101, Tryz.ntmps101
    go_wp2
    go_ret
    exact ⟨rfl, rfl⟩
  · show Calls _ _ _ _ (PureR false w)
    go_enter Tryz.func101, Tryz.ntmps101
    go_wp2
    go_ret
    exact ⟨rfl, rfl⟩
  · show Calls _ _ _ _ (PureR false w)
    go_enter Tryz.func101, Tryz.ntmps101
    go_wp2
    go_ret
    exact ⟨rfl, rfl⟩
  · rw [over_two h]
    have n0 : ¬ op ≤ 10 := by omega
    have n1 : ¬ op ≤ 22 := by omega
    have p0 : 4 ≤ op := by omega
    have p1 : 1 ≤ op := by omega
    have q13 : (op == 13) = false := by simp; omega
    have q14 : (op == 14) = false := by simp; omega
    have q15 : (op == 15) = false := by simp; omega
    have q16 : (op == 16) = false := by simp; omega
    have q17 : (op == 17) = false := by simp; omega
    have q18 : (op == 18) = false := by simp; omega
    have q19 : (op == 19) = false := by simp; omega
    have q21 : (op == 21) = false := by simp; omega
    have q22 : (op == 22) = false := by simp; omega
    go_enter Tryz.func101, Tryz.ntmps101
    go_wp2
    go_ret
    exact ⟨rfl, rfl⟩
set_option maxHeartbeats 2000000 in
theorem hasA_calls (op : Int) (h0 : 0 ≤ op) (h2 : op ≤ 255) (w : World) : Calls Tryz.prog 100 #[.int .u8 op] w (PureR (hasAB op) w) := by
  rcases op_list h0 with rfl | rfl | rfl | rfl | rfl | rfl | rfl | rfl | rfl | rfl | rfl | rfl | rfl | rfl | rfl | rfl | rfl | rfl | rfl | rfl | rfl | rfl | rfl | h
  · show Calls _ _ _ _ (PureR false w)
    have HT : Hid (Calls Tryz.prog 101 #[.int .u8 0] w (PureR _ w)) := two_calls _ h0 h2 w
    go_enter Tryz.func100, Tryz.ntmps100
    go_wp2_with fail
    refine HT.out.mono ?_
    rintro e w1 ⟨rfl, rfl⟩
    clear HT
    go_wp2
    go_ret
    exact ⟨rfl, rfl⟩
  · show Calls _ _ _ _ (PureR false w)
    have HT : Hid (Calls Tryz.prog 101 #[.int .u8 1] w (PureR _ w)) := two_calls _ h0 h2 w
    go_enter Tryz.func100, Tryz.ntmps100
    go_wp2_with fail
    refine HT.out.mono ?_
    rintro e w1 ⟨rfl, rfl⟩
    clear HT
    go_wp2
    go_ret
    exact ⟨rfl, rfl⟩
  · show Calls _ _ _ _ (PureR false w)
    have HT : Hid (Calls Tryz.prog 101 #[.int .u8 2] w (PureR _ w)) := two_calls _ h0 h2 w
    go_enter Tryz.func100, Tryz.ntmps100
    go_wp2_with fail
    refine HT.out.mono ?_
    rintro e w1 ⟨rfl, rfl⟩
    clear HT
    go_wp2
    go_ret
    exact ⟨rfl, rfl⟩
  · show Calls _ _ _ _ (PureR false w)
    have HT : Hid (Calls Tryz.prog 101 #[.int .u8 3] w (PureR _ w)) := two_calls _ h0 h2 w
    go_enter Tryz.func100, Tryz.ntmps100
    go_wp2_with fail
    refine HT.out.mono ?_
    rintro e w1 ⟨rfl, rfl⟩
    clear HT
    go_wp2
    go_ret
    exact ⟨rfl, rfl⟩
  · show Calls _ _ _ _ (PureR true w)
    have HT : Hid (Calls Tryz.prog 101 #[.int .u8 4] w (PureR _ w)) := two_calls _ h0 h2 w
    go_enter Tryz.func100, Tryz.ntmps100
    go_wp2_with fail
    refine HT.out.mono ?_
    rintro e w1 ⟨rfl, rfl⟩
    clear HT
    go_wp2
    go_ret
    exact ⟨rfl, rfl⟩
  · show Calls _ _ _ _ (PureR true w)
    have HT : Hid (Calls Tryz.prog 101 #[.int .u8 5] w (PureR _ w)) := two_calls _ h0 h2 w
    go_enter Tryz.func100, Tryz.ntmps100
    go_wp2_with fail
    refine HT.out.mono ?_
    rintro e w1 ⟨rfl, rfl⟩
    clear HT
    go_wp2
    go_ret
    exact ⟨rfl, rfl⟩
  · show Calls _ _ _ _ (PureR true w)
    have HT : Hid (Calls Tryz.prog 101 #[.int .u8 6] w (PureR _ w)) := two_calls _ h0 h2 w
    go_enter Tryz.func100, Tryz.ntmps100
    go_wp2_with fail
    refine HT.out.mono ?_
    rintro e w1 ⟨rfl, rfl⟩
    clear HT
    go_wp2
    go_ret
    exact ⟨rfl, rfl⟩
  · show Calls _ _ _ _ (PureR true w)
    have HT : Hid (Calls Tryz.prog 101 #[.int .u8 7] w (PureR _ w)) := two_calls _ h0 h2 w
    go_enter Tryz.func100, Tryz.ntmps100
    go_wp2_with fail
    refine HT.out.mono ?_
    rintro e w1 ⟨rfl, rfl⟩
    clear HT
    go_wp2
    go_ret
    exact ⟨rfl, rfl⟩
  · show Calls _ _ _ _ (PureR true w)
    have HT : Hid (Calls Tryz.prog 101 #[.int .u8 8] w (PureR _ w)) := two_calls _ h0 h2 w
    go_enter Tryz.func100, Tryz.ntmps100
    go_wp2_with fail
    refine HT.out.mono ?_
    rintro e w1 ⟨rfl, rfl⟩
    clear HT
    go_wp2
    go_ret
    exact ⟨rfl, rfl⟩
  · show Calls _ _ _ _ (PureR true w)
    have HT : Hid (Calls Tryz.prog 101 #[.int .u8 9] w (PureR _ w)) := two_calls _ h0 h2 w
    go_enter Tryz.func100, Tryz.ntmps100
    go_wp2_with fail
    refine HT.out.mono ?_
    rintro e w1 ⟨rfl, rfl⟩
    clear HT
    go_wp2
    go_ret
    exact ⟨rfl, rfl⟩
  · show Calls _ _ _ _ (PureR true w)
    have HT : Hid (Calls Tryz.prog 101 #[.int .u8 10] w (PureR _ w)) := two_calls _ h0 h2 w
    go_enter Tryz.func100, Tryz.ntmps100
    go_wp2_with fail
    refine HT.out.mono ?_
    rintro e w1 ⟨rfl, rfl⟩
    clear HT
    go_wp2
    go_ret
    exact ⟨rfl, rfl⟩
  · show Calls _ _ _ _ (PureR false w)
    have HT : Hid (Calls Tryz.prog 101 #[.int .u8 11] w (PureR _ w)) := two_calls _ h0 h2 w
    go_enter Tryz.func100, Tryz.ntmps100
    go_wp2_with fail
    refine HT.out.mono ?_
    rintro e w1 ⟨rfl, rfl⟩
    clear HT
    go_wp2
    go_ret
    exact ⟨rfl, rfl⟩
  · show Calls _ _ _ _ (PureR false w)
    have HT : Hid (Calls Tryz.prog 101 #[.int .u8 12] w (PureR _ w)) := two_calls _ h0 h2 w
    go_enter Tryz.func100, Tryz.ntmps100
    go_wp2_with fail
    refine HT.out.mono ?_
    rintro e w1 ⟨rfl, rfl⟩
    clear HT
    go_wp2
    go_ret
    exact ⟨rfl, rfl⟩
  · show Calls _ _ _ _ (PureR true w)
    have HT : Hid (Calls Tryz.prog 101 #[.int .u8 13] w (PureR _ w)) := two_calls _ h0 h2 w
    go_enter Tryz.func100, Tryz.ntmps100
    go_wp2_with fail
    refine HT.out.mono ?_
    rintro e w1 ⟨rfl, rfl⟩
    clear HT
    go_wp2
    go_ret
    exact ⟨rfl, rfl⟩
  · show Calls _ _ _ _ (PureR true w)
    have HT : Hid (Calls Tryz.prog 101 #[.int .u8 14] w (PureR _ w)) := two_calls _ h0 h2 w
    go_enter Tryz.func100, Tryz.ntmps100
    go_wp2_with fail
    refine HT.out.mono ?_
    rintro e w1 ⟨rfl, rfl⟩
    clear HT
    go_wp2
    go_ret
    exact ⟨rfl, rfl⟩
  · show Calls _ _ _ _ (PureR true w)
    have HT : Hid (Calls Tryz.prog 101 #[.int .u8 15] w (PureR _ w)) := two_calls _ h0 h2 w
    go_enter Tryz.func100, Tryz.ntmps100
    go_wp2_with fail
    refine HT.out.mono ?_
    rintro e w1 ⟨rfl, rfl⟩
    clear HT
    go_wp2
    go_ret
    exact ⟨rfl, rfl⟩
  · show Calls _ _ _ _ (PureR true w)
    have HT : Hid (Calls Tryz.prog 101 #[.int .u8 16] w (PureR _ w)) := two_calls _ h0 h2 w
    go_enter Tryz.func100, Tryz.ntmps100
    go_wp2_with fail
    refine HT.out.mono ?_
    rintro e w1 ⟨rfl, rfl⟩
    clear HT
    go_wp2
    go_ret
    exact ⟨rfl, rfl⟩
  · show Calls _ _ _ _ (PureR true w)
    have HT : Hid (Calls Tryz.prog 101 #[.int .u8 17] w (PureR _ w)) := two_calls _ h0 h2 w
    go_enter Tryz.func100, Tryz.ntmps100
    go_wp2_with fail
    refine HT.out.mono ?_
    rintro e w1 ⟨rfl, rfl⟩
    clear HT
    go_wp2
    go_ret
    exact ⟨rfl, rfl⟩
  · show Calls _ _ _ _ (PureR false w)
    have HT : Hid (Calls Tryz.prog 101 #[.int .u8 18] w (PureR _ w)) := two_calls _ h0 h2 w
    go_enter Tryz.func100, Tryz.ntmps100
    go_wp2_with fail
    refine HT.out.mono ?_
    rintro e w1 ⟨rfl, rfl⟩
    clear HT
    go_wp2
    go_ret
    exact ⟨rfl, rfl⟩
  · show Calls _ _ _ _ (PureR true w)
    have HT : Hid (Calls Tryz.prog 101 #[.int .u8 19] w (PureR _ w)) := two_calls _ h0 h2 w
    go_enter Tryz.func100, Tryz.ntmps100
    go_wp2_with fail
    refine HT.out.mono ?_
    rintro e w1 ⟨rfl, rfl⟩
    clear HT
    go_wp2
    go_ret
    exact ⟨rfl, rfl⟩
  · show Calls _ _ _ _ (PureR false w)
    have HT : Hid (Calls Tryz.prog 101 #[.int .u8 20] w (PureR _ w)) := two_calls _ h0 h2 w
    go_enter Tryz.func100, Tryz.ntmps100
    go_wp2_with fail
    refine HT.out.mono ?_
    rintro e w1 ⟨rfl, rfl⟩
    clear HT
    go_wp2
    go_ret
    exact ⟨rfl, rfl⟩
  · show Calls _ _ _ _ (PureR true w)
    have HT : Hid (Calls Tryz.prog 101 #[.int .u8 21] w (PureR _ w)) := two_calls _ h0 h2 w
    go_enter Tryz.func100, Tryz.ntmps100
    go_wp2_with fail
    refine HT.out.mono ?_
    rintro e w1 ⟨rfl, rfl⟩
    clear HT
    go_wp2
    go_ret
    exact ⟨rfl, rfl⟩
  · show Calls _ _ _ _ (PureR false w)
    have HT : Hid (Calls Tryz.prog 101 #[.int .u8 22] w (PureR _ w)) := two_calls _ h0 h2 w
    go_enter Tryz.func100, Tryz.ntmps100
    go_wp2_with fail
    refine HT.out.mono ?_
    rintro e w1 ⟨rfl, rfl⟩
    clear HT
    go_wp2
    go_ret
    exact ⟨rfl, rfl⟩
  · rw [over_hasA h]
    have HT := hid (two_calls op h0 h2 w)
    rw [over_two h] at HT
    have n0 : ¬ op ≤ 10 := by omega
    have n1 : ¬ op ≤ 22 := by omega
    have p0 : 4 ≤ op := by omega
    have p1 : 1 ≤ op := by omega
    have q13 : (op == 13) = false := by simp; omega
    have q14 : (op == 14) = false := by simp; omega
    have q15 : (op == 15) = false := by simp; omega
    have q16 : (op == 16) = false := by simp; omega
    have q17 : (op == 17) = false := by simp; omega
    have q18 : (op == 18) = false := by simp; omega
    have q19 : (op == 19) = false := by simp; omega
    have q21 : (op == 21) = false := by simp; omega
    have q22 : (op == 22) = false := by simp; omega
    go_enter Tryz.func100, Tryz.ntmps100
    go_wp2_with fail
    refine HT.out.mono ?_
    rintro e w1 ⟨rfl, rfl⟩
    clear HT
    go_wp2
    go_ret
    exact ⟨rfl, rfl⟩
set_option maxHeartbeats 2000000 in
theorem hasArgs_calls (op : Int) (h0 : 0 ≤ op) (h2 : op ≤ 255) (w : World) : Calls Tryz.prog 102 #[.int .u8 op] w (PureR (argsB op) w) := by
  rcases op_list h0 with rfl | rfl | rfl | rfl | rfl | rfl | rfl | rfl | rfl | rfl | rfl | rfl | rfl | rfl | rfl | rfl | rfl | rfl | rfl | rfl | rfl | rfl | rfl | h
  · show Calls _ _ _ _ (PureR false w)
    go_enter Tryz.func102, Tryz.ntmps102
    go_wp2
    go_ret
    exact ⟨rfl, rfl⟩
  · show Calls _ _ _ _ (PureR false w)
    go_enter Tryz.func102, Tryz.ntmps102
    go_wp2
    go_ret
    exact ⟨rfl, rfl⟩
  · show Calls _ _ _ _ (PureR false w)
    go_enter Tryz.func102, Tryz.ntmps102
    go_wp2
    go_ret
    exact ⟨rfl, rfl⟩
  · show Calls _ _ _ _ (PureR false w)
    go_enter Tryz.func102, Tryz.ntmps102
    go_wp2
    go_ret
    exact ⟨rfl, rfl⟩
  · show Calls _ _ _ _ (PureR false w)
    go_enter Tryz.func102, Tryz.ntmps102
    go_wp2
    go_ret
    exact ⟨rfl, rfl⟩
  · show Calls _ _ _ _ (PureR false w)
    go_enter Tryz.func102, Tryz.ntmps102
    go_wp2
    go_ret
    exact ⟨rfl, rfl⟩
  · show Calls _ _ _ _ (PureR false w)
    go_enter Tryz.func102, Tryz.ntmps102
    go_wp2
    go_ret
    exact ⟨rfl, rfl⟩
  · show Calls _ _ _ _ (PureR false w)
    go_enter Tryz.func102, Tryz.ntmps102
    go_wp2
    go_ret
    exact ⟨rfl, rfl⟩
  · show Calls _ _ _ _ (PureR false w)
    go_enter Tryz.func102, Tryz.ntmps102
    go_wp2
    go_ret
    exact ⟨rfl, rfl⟩
  · show Calls _ _ _ _ (PureR false w)
    go_enter Tryz.func102, Tryz.ntmps102
    go_wp2
    go_ret
    exact ⟨rfl, rfl⟩
  · show Calls _ _ _ _ (PureR false w)
    go_enter Tryz.func102, Tryz.ntmps102
    go_wp2
    go_ret
    exact ⟨rfl, rfl⟩
  · show Calls _ _ _ _ (PureR false w)
    go_enter Tryz.func102, Tryz.ntmps102
    go_wp2
    go_ret
    exact ⟨rfl, rfl⟩
  · show Calls _ _ _ _ (PureR false w)
    go_enter Tryz.func102, Tryz.ntmps102
    go_wp2
    go_ret
    exact ⟨rfl, rfl⟩
  · show Calls _ _ _ _ (PureR false w)
    go_enter Tryz.func102, Tryz.ntmps102
    go_wp2
    go_ret
    exact ⟨rfl, rfl⟩
  · show Calls _ _ _ _ (PureR false w)
    go_enter Tryz.func102, Tryz.ntmps102
    go_wp2
    go_ret
    exact ⟨rfl, rfl⟩
  · show Calls _ _ _ _ (PureR false w)
    go_enter Tryz.func102, Tryz.ntmps102
    go_wp2
    go_ret
    exact ⟨rfl, rfl⟩
  · show Calls _ _ _ _ (PureR false w)
    go_enter Tryz.func102, Tryz.ntmps102
    go_wp2
    go_ret
    exact ⟨rfl, rfl⟩
  · show Calls _ _ _ _ (PureR false w)
    go_enter Tryz.func102, Tryz.ntmps102
    go_wp2
    go_ret
    exact ⟨rfl, rfl⟩
  · show Calls _ _ _ _ (PureR true w)
    go_enter Tryz.func102, Tryz.ntmps102
    go_wp2
    go_ret
    exact ⟨rfl, rfl⟩
  · show Calls _ _ _ _ (PureR true w)
    go_enter Tryz.func102, Tryz.ntmps102
    go_wp2
    go_ret
    exact ⟨rfl, rfl⟩
  · show Calls _ _ _ _ (PureR false w)
    go_enter Tryz.func102, Tryz.ntmps102
    go_wp2
    go_ret
    exact ⟨rfl, rfl⟩
  · show Calls _ _ _ _ (PureR false w)
    go_enter Tryz.func102, Tryz.ntmps102
    go_wp2
    go_ret
    exact ⟨rfl, rfl⟩
  · show Calls _ _ _ _ (PureR true w)
    go_enter Tryz.func102, Tryz.ntmps102
    go_wp2
    go_ret
    exact ⟨rfl, rfl⟩
  · rw [over_args h]
    have n0 : ¬ op ≤ 10 := by omega
    have n1 : ¬ op ≤ 22 := by omega
    have p0 : 4 ≤ op := by omega
    have p1 : 1 ≤ op := by omega
    have q13 : (op == 13) = false := by simp; omega
    have q14 : (op == 14) = false := by simp; omega
    have q15 : (op == 15) = false := by simp; omega
    have q16 : (op == 16) = false := by simp; omega
    have q17 : (op == 17) = false := by simp; omega
    have q18 : (op == 18) = false := by simp; omega
    have q19 : (op == 19) = false := by simp; omega
    have q21 : (op == 21) = false := by simp; omega
    have q22 : (op == 22) = false := by simp; omega
    go_enter Tryz.func102, Tryz.ntmps102
    go_wp2
    go_ret
    exact ⟨rfl, rfl⟩
set_option maxHeartbeats 2000000 in
theorem answersR_calls (op : Int) (h0 : 0 ≤ op) (h2 : op ≤ 255) (w : World) : Calls Tryz.prog 103 #[.int .u8 op] w (PureR (answersB op) w) := by
  rcases op_list h0 with rfl | rfl | rfl | rfl | rfl | rfl | rfl | rfl | rfl | rfl | rfl | rfl | rfl | rfl | rfl | rfl | rfl | rfl | rfl | rfl | rfl | rfl | rfl | h
  · show Calls _ _ _ _ (PureR false w)
    go_enter Tryz.func103, Tryz.ntmps103
    go_wp2
    go_ret
    exact ⟨rfl, rfl⟩
  · show Calls _ _ _ _ (PureR true w)
    go_enter Tryz.func103, Tryz.ntmps103
    go_wp2
    go_ret
    exact ⟨rfl, rfl⟩
  · show Calls _ _ _ _ (PureR true w)
    go_enter Tryz.func103, Tryz.ntmps103
    go_wp2
    go_ret
    exact ⟨rfl, rfl⟩
  · show Calls _ _ _ _ (PureR true w)
    go_enter Tryz.func103, Tryz.ntmps103
    go_wp2
    go_ret
    exact ⟨rfl, rfl⟩
  · show Calls _ _ _ _ (PureR true w)
    go_enter Tryz.func103, Tryz.ntmps103
    go_wp2
    go_ret
    exact ⟨rfl, rfl⟩
  · show Calls _ _ _ _ (PureR true w)
    go_enter Tryz.func103, Tryz.ntmps103
    go_wp2
    go_ret
    exact ⟨rfl, rfl⟩
  · show Calls _ _ _ _ (PureR true w)
    go_enter Tryz.func103, Tryz.ntmps103
    go_wp2
    go_ret
    exact ⟨rfl, rfl⟩
  · show Calls _ _ _ _ (PureR true w)
    go_enter Tryz.func103, Tryz.ntmps103
    go_wp2
    go_ret
    exact ⟨rfl, rfl⟩
  · show Calls _ _ _ _ (PureR true w)
    go_enter Tryz.func103, Tryz.ntmps103
    go_wp2
    go_ret
    exact ⟨rfl, rfl⟩
  · show Calls _ _ _ _ (PureR true w)
    go_enter Tryz.func103, Tryz.ntmps103
    go_wp2
    go_ret
    exact ⟨rfl, rfl⟩
  · show Calls _ _ _ _ (PureR true w)
    go_enter Tryz.func103, Tryz.ntmps103
    go_wp2
    go_ret
    exact ⟨rfl, rfl⟩
  · show Calls _ _ _ _ (PureR true w)
    go_enter Tryz.func103, Tryz.ntmps103
    go_wp2
    go_ret
    exact ⟨rfl, rfl⟩
  · show Calls _ _ _ _ (PureR true w)
    go_enter Tryz.func103, Tryz.ntmps103
    go_wp2
    go_ret
    exact ⟨rfl, rfl⟩
  · show Calls _ _ _ _ (PureR false w)
    go_enter Tryz.func103, Tryz.ntmps103
    go_wp2
    go_ret
    exact ⟨rfl, rfl⟩
  · show Calls _ _ _ _ (PureR true w)
    go_enter Tryz.func103, Tryz.ntmps103
    go_wp2
    go_ret
    exact ⟨rfl, rfl⟩
  · show Calls _ _ _ _ (PureR true w)
    go_enter Tryz.func103, Tryz.ntmps103
    go_wp2
    go_ret
    exact ⟨rfl, rfl⟩
  · show Calls _ _ _ _ (PureR true w)
    go_enter Tryz.func103, Tryz.ntmps103
    go_wp2
    go_ret
    exact ⟨rfl, rfl⟩
  · show Calls _ _ _ _ (PureR false w)
    go_enter Tryz.func103, Tryz.ntmps103
    go_wp2
    go_ret
    exact ⟨rfl, rfl⟩
  · show Calls _ _ _ _ (PureR true w)
    go_enter Tryz.func103, Tryz.ntmps103
    go_wp2
    go_ret
    exact ⟨rfl, rfl⟩
  · show Calls _ _ _ _ (PureR true w)
    go_enter Tryz.func103, Tryz.ntmps103
    go_wp2
    go_ret
    exact ⟨rfl, rfl⟩
  · show Calls _ _ _ _ (PureR true w)
    go_enter Tryz.func103, Tryz.ntmps103
    go_wp2
    go_ret
    exact ⟨rfl, rfl⟩
  · show Calls _ _ _ _ (PureR false w)
    go_enter Tryz.func103, Tryz.ntmps103
    go_wp2
    go_ret
    exact ⟨rfl, rfl⟩
  · show Calls _ _ _ _ (PureR true w)
    go_enter Tryz.func103, Tryz.ntmps103
    go_wp2
    go_ret
    exact ⟨rfl, rfl⟩
  · rw [over_answers h]
    have n0 : ¬ op ≤ 10 := by omega
    have n1 : ¬ op ≤ 22 := by omega
    have p0 : 4 ≤ op := by omega
    have p1 : 1 ≤ op := by omega
    have q13 : (op == 13) = false := by simp; omega
    have q14 : (op == 14) = false := by simp; omega
    have q15 : (op == 15) = false := by simp; omega
    have q16 : (op == 16) = false := by simp; omega
    have q17 : (op == 17) = false := by simp; omega
    have q18 : (op == 18) = false := by simp; omega
    have q19 : (op == 19) = false := by simp; omega
    have q21 : (op == 21) = false := by simp; omega
    have q22 : (op == 22) = false := by simp; omega
    go_enter Tryz.func103, Tryz.ntmps103
    go_wp2
    go_ret
    exact ⟨rfl, rfl⟩
end Go.Proofs.YtimnjkdhcnhkoaaGreatDoor.ShB
namespace Go.Proofs.YtimnjkdhcnhkoaaGreatDoor.ShV
open Go.RowKit Go.Lib SetP IntO TyM TyP TyB ShM ShP ShA ShB

set_option maxRecDepth 100000 in
set_option maxHeartbeats 4000000 in
theorem usesR_calls (x : Ix) (va vf : Value) (w : World) (h0 : 0 ≤ x.op) (h2 : x.op ≤ 255) (ha : IntsAt w va x.args) (hl : x.args.length ≤ 20000) (hvf : ∃ a n c, vf = .slice a n c) :
    Calls Tryz.prog 98 #[ixV x va vf] w (OwnI (usesOf x) w) := by
  obtain ⟨fa, fn, fc, rfl⟩ := hvf
  have HA := hid ha
  have HLN := hid hl
  obtain ⟨pa, pc, rfl, hpl⟩ := ints_slice ha
  clear ha
  have HC1 := hid (fun w => hasA_calls x.op h0 h2 w)
  have HC2 := hid (fun w => two_calls x.op h0 h2 w)
  have HC3 := hid (fun w => hasArgs_calls x.op h0 h2 w)
  show Calls _ _ _ _ (OwnI (usesL (hasAB x.op) (twoB x.op) (argsB x.op) x.a x.b x.args) w)
  have hAB : twoB x.op = true → hasAB x.op = true ∧ argsB x.op = false := by
    intro h
    refine ⟨by unfold hasAB; rw [h]; rfl, ?_⟩
    unfold twoB at h
    have := of_decide_eq_true h
    unfold argsB
    simp; omega
  generalize hasAB x.op = cA at *
  generalize twoB x.op = cB at *
  generalize argsB x.op = cM at *
  clear h0 h2
  obtain ⟨op, ty, a, b, n, xp, xf⟩ := x
  simp only at *
  have hb0 : Below w.heap.size w (w.alloc (.cells #[.int .u8 op, .int .i64 ty, .int .i64 a, .int .i64 b, .int .i64 n, .slice pa xp.length pc, .slice fa fn fc] 46)) := alloc_below _ _
  have HB0 := hid hb0
  cases cA <;> cases cB <;> cases cM
  all_goals try (exfalso; have := hAB rfl; simp at this; done)
  · generalize hxl : xp.length = xl at *
    have HXL := hid hxl
    clear hxl hb0 hAB
    obtain ⟨W1, hW1⟩ : ∃ W1, W1 = w.alloc (.cells #[.int .u8 op, .int .i64 ty, .int .i64 a, .int .i64 b, .int .i64 n, .slice pa xl pc, .slice fa fn fc] 46) := ⟨_, rfl⟩
    have HW1 : Hid (Below w.heap.size w W1) := by show Below _ _ _; rw [hW1]; exact HB0.out
    have HBX : Hid (W1.heap[w.heap.size]? = some (.cells #[.int .u8 op, .int .i64 ty, .int .i64 a, .int .i64 b, .int .i64 n, .slice pa xl pc, .slice fa fn fc] 46 (0, 0))) := by show _ = _; rw [hW1]; exact alloc_new _ _
    have HBL : Hid (w.heap.size < W1.heap.size) := (Array.getElem?_eq_some_iff.1 HBX.out).1
    have HAR := hid (fun wx (h : Below W1.heap.size W1 wx) => HA.out.below (HW1.out.trans (h.mono HW1.out.size)))
    have HWE := hid hW1
    have HZ : Hid (W1.heap.size = w.heap.size + 1) := by show _ = _; rw [hW1]; simp
    clear hW1 HB0 HA
    go_enter Tryz.func98, Tryz.ntmps98
    go_wp2_with fail
    refine (HC1.out _).mono ?_
    rintro e w' ⟨rfl, rfl⟩
    clear HC1
    go_wp2_with fail
    refine (HC2.out _).mono ?_
    rintro e w' ⟨rfl, rfl⟩
    clear HC2
    go_wp2_with fail
    refine (HC3.out _).mono ?_
    rintro e w' ⟨rfl, rfl⟩
    clear HC3
    go_wp2
    go_ret
    exact ⟨_, 0, rfl, World.ownsRow_nil _ _ _ _, by rw [← HWE.out]; exact HW1.out⟩
  · generalize hxl : xp.length = xl at *
    have HXL := hid hxl
    clear hxl hb0 hAB
    obtain ⟨W1, hW1⟩ : ∃ W1, W1 = w.alloc (.cells #[.int .u8 op, .int .i64 ty, .int .i64 a, .int .i64 b, .int .i64 n, .slice pa xl pc, .slice fa fn fc] 46) := ⟨_, rfl⟩
    have HW1 : Hid (Below w.heap.size w W1) := by show Below _ _ _; rw [hW1]; exact HB0.out
    have HBX : Hid (W1.heap[w.heap.size]? = some (.cells #[.int .u8 op, .int .i64 ty, .int .i64 a, .int .i64 b, .int .i64 n, .slice pa xl pc, .slice fa fn fc] 46 (0, 0))) := by show _ = _; rw [hW1]; exact alloc_new _ _
    have HBL : Hid (w.heap.size < W1.heap.size) := (Array.getElem?_eq_some_iff.1 HBX.out).1
    have HAR := hid (fun wx (h : Below W1.heap.size W1 wx) => HA.out.below (HW1.out.trans (h.mono HW1.out.size)))
    have HWE := hid hW1
    have HZ : Hid (W1.heap.size = w.heap.size + 1) := by show _ = _; rw [hW1]; simp
    clear hW1 HB0 HA
    go_enter Tryz.func98, Tryz.ntmps98
    go_wp2_with fail
    refine (HC1.out _).mono ?_
    rintro e w' ⟨rfl, rfl⟩
    clear HC1
    go_wp2_with fail
    refine (HC2.out _).mono ?_
    rintro e w' ⟨rfl, rfl⟩
    clear HC2
    go_wp2_with fail
    refine (HC3.out _).mono ?_
    rintro e w' ⟨rfl, rfl⟩
    clear HC3
    have HO1 : Hid (W1.ownsRow W1.heap.size 3 1 (.slice none 0 0) (0) (intVals ([]))) := World.ownsRow_nil _ _ _ _
    have HI1 := hid (HAR.out W1 (Below.refl _ _))
    have hs1 : W1.heap.size ≤ W1.heap.size := Nat.le_refl _
    have HV1 := hid (Below.refl W1.heap.size W1)
    skip
    go_wp2_with (at_builtin; rw [← HWE.out]; refine wpList_append_ints rfl (.tmp 23) (.tmp 25) rfl W1.heap.size (.slice none 0 0) rfl (0) (intVals ([])) HO1.out (by omega) (.slice pa xl pc) xp rfl HI1.out (by have := HLN.out; have := HXL.out; omega) hs1 ?_)
    intro v1 w1' hown hgr
    have hbe1 := own_grown HV1.out HO1.out hgr hs1
    have HOW : Hid (w1'.ownsRow W1.heap.size 3 1 v1 (xp.length) (intVals ([] ++ xp))) := by show World.ownsRow _ _ _ _ _ _ _; rw [intVals_append]; exact hown
    have HBE := hid hbe1
    obtain ⟨va1, vc1, rfl⟩ := own_slice hown
    obtain ⟨bc, bf, bs, _⟩ := copyF HBX.out hbe1 HBL.out
    have f0 := bc 0 (by simp); have f2 := bc 2 (by simp); have f3 := bc 3 (by simp); have f5 := bc 5 (by simp)
    simp only [List.getElem_toArray, List.getElem_cons_succ, List.getElem_cons_zero] at f0 f2 f3 f5
    clear bc bf hgr hown hbe1 HO1 HI1 hs1 HV1
    go_wp2
    go_ret
    refine ⟨(.slice va1 (xp.length) vc1), xp.length, rfl, ?_, HW1.out.trans (HBE.out.mono HW1.out.size)⟩
    have := owns_base HOW.out HW1.out.size
    simpa [usesL] using this
  · generalize hxl : xp.length = xl at *
    have HXL := hid hxl
    clear hxl hb0 hAB
    obtain ⟨W1, hW1⟩ : ∃ W1, W1 = w.alloc (.cells #[.int .u8 op, .int .i64 ty, .int .i64 a, .int .i64 b, .int .i64 n, .slice pa xl pc, .slice fa fn fc] 46) := ⟨_, rfl⟩
    have HW1 : Hid (Below w.heap.size w W1) := by show Below _ _ _; rw [hW1]; exact HB0.out
    have HBX : Hid (W1.heap[w.heap.size]? = some (.cells #[.int .u8 op, .int .i64 ty, .int .i64 a, .int .i64 b, .int .i64 n, .slice pa xl pc, .slice fa fn fc] 46 (0, 0))) := by show _ = _; rw [hW1]; exact alloc_new _ _
    have HBL : Hid (w.heap.size < W1.heap.size) := (Array.getElem?_eq_some_iff.1 HBX.out).1
    have HAR := hid (fun wx (h : Below W1.heap.size W1 wx) => HA.out.below (HW1.out.trans (h.mono HW1.out.size)))
    have HWE := hid hW1
    have HZ : Hid (W1.heap.size = w.heap.size + 1) := by show _ = _; rw [hW1]; simp
    clear hW1 HB0 HA
    go_enter Tryz.func98, Tryz.ntmps98
    go_wp2_with fail
    refine (HC1.out _).mono ?_
    rintro e w' ⟨rfl, rfl⟩
    clear HC1
    have ho1 : (W1.alloc (.cells #[.int .i64 a] 3)).ownsRow W1.heap.size 3 1 (.slice none 0 0) (0) (intVals ([])) := World.ownsRow_nil _ _ _ _
    have HO1 := hid ho1
    have HI1 := hid (ints_one (w := (W1.alloc (.cells #[.int .i64 a] 3))) (b := (w.heap.size + 1)) (n := a) (cell_new _ _ _ _ HZ.out) (size_new _ _ _ HZ.out))
    have hs1 : W1.heap.size ≤ (W1.alloc (.cells #[.int .i64 a] 3)).heap.size := by simp
    have HV1 := hid ((Below.refl W1.heap.size W1).alloc (Nat.le_refl _) (.cells #[.int .i64 a] 3))
    clear ho1
    go_wp2_with (at_builtin; rw [← HWE.out]; refine wpList_append_ints rfl (.tmp 7) (.tmp 10) rfl W1.heap.size (.slice none 0 0) rfl (0) (intVals ([])) HO1.out (by omega) (.slice (some ⟨(w.heap.size + 1), 0, none⟩) 1 1) [a] rfl HI1.out (by simp) hs1 ?_)
    intro v1 w1' hown hgr
    have hbe1 := own_grown HV1.out HO1.out hgr hs1
    have HOW : Hid (w1'.ownsRow W1.heap.size 3 1 v1 (1) (intVals ([] ++ [a]))) := by show World.ownsRow _ _ _ _ _ _ _; rw [intVals_append]; exact hown
    have HBE := hid hbe1
    obtain ⟨va1, vc1, rfl⟩ := own_slice hown
    obtain ⟨bc, bf, bs, _⟩ := copyF HBX.out hbe1 HBL.out
    have f0 := bc 0 (by simp); have f2 := bc 2 (by simp); have f3 := bc 3 (by simp); have f5 := bc 5 (by simp)
    simp only [List.getElem_toArray, List.getElem_cons_succ, List.getElem_cons_zero] at f0 f2 f3 f5
    clear bc bf hgr hown hbe1 HO1 HI1 hs1 HV1
    go_wp2_with fail
    refine (HC2.out _).mono ?_
    rintro e w' ⟨rfl, rfl⟩
    clear HC2
    go_wp2_with fail
    refine (HC3.out _).mono ?_
    rintro e w' ⟨rfl, rfl⟩
    clear HC3
    go_wp2
    go_ret
    refine ⟨(.slice va1 (1) vc1), 1, rfl, ?_, HW1.out.trans (HBE.out.mono HW1.out.size)⟩
    have := owns_base HOW.out HW1.out.size
    simpa [usesL] using this
  · generalize hxl : xp.length = xl at *
    have HXL := hid hxl
    clear hxl hb0 hAB
    obtain ⟨W1, hW1⟩ : ∃ W1, W1 = w.alloc (.cells #[.int .u8 op, .int .i64 ty, .int .i64 a, .int .i64 b, .int .i64 n, .slice pa xl pc, .slice fa fn fc] 46) := ⟨_, rfl⟩
    have HW1 : Hid (Below w.heap.size w W1) := by show Below _ _ _; rw [hW1]; exact HB0.out
    have HBX : Hid (W1.heap[w.heap.size]? = some (.cells #[.int .u8 op, .int .i64 ty, .int .i64 a, .int .i64 b, .int .i64 n, .slice pa xl pc, .slice fa fn fc] 46 (0, 0))) := by show _ = _; rw [hW1]; exact alloc_new _ _
    have HBL : Hid (w.heap.size < W1.heap.size) := (Array.getElem?_eq_some_iff.1 HBX.out).1
    have HAR := hid (fun wx (h : Below W1.heap.size W1 wx) => HA.out.below (HW1.out.trans (h.mono HW1.out.size)))
    have HWE := hid hW1
    have HZ : Hid (W1.heap.size = w.heap.size + 1) := by show _ = _; rw [hW1]; simp
    clear hW1 HB0 HA
    go_enter Tryz.func98, Tryz.ntmps98
    go_wp2_with fail
    refine (HC1.out _).mono ?_
    rintro e w' ⟨rfl, rfl⟩
    clear HC1
    have ho1 : (W1.alloc (.cells #[.int .i64 a] 3)).ownsRow W1.heap.size 3 1 (.slice none 0 0) (0) (intVals ([])) := World.ownsRow_nil _ _ _ _
    have HO1 := hid ho1
    have HI1 := hid (ints_one (w := (W1.alloc (.cells #[.int .i64 a] 3))) (b := (w.heap.size + 1)) (n := a) (cell_new _ _ _ _ HZ.out) (size_new _ _ _ HZ.out))
    have hs1 : W1.heap.size ≤ (W1.alloc (.cells #[.int .i64 a] 3)).heap.size := by simp
    have HV1 := hid ((Below.refl W1.heap.size W1).alloc (Nat.le_refl _) (.cells #[.int .i64 a] 3))
    clear ho1
    go_wp2_with (at_builtin; rw [← HWE.out]; refine wpList_append_ints rfl (.tmp 7) (.tmp 10) rfl W1.heap.size (.slice none 0 0) rfl (0) (intVals ([])) HO1.out (by omega) (.slice (some ⟨(w.heap.size + 1), 0, none⟩) 1 1) [a] rfl HI1.out (by simp) hs1 ?_)
    intro v1 w1' hown hgr
    have hbe1 := own_grown HV1.out HO1.out hgr hs1
    have HOW : Hid (w1'.ownsRow W1.heap.size 3 1 v1 (1) (intVals ([] ++ [a]))) := by show World.ownsRow _ _ _ _ _ _ _; rw [intVals_append]; exact hown
    have HBE := hid hbe1
    obtain ⟨va1, vc1, rfl⟩ := own_slice hown
    obtain ⟨bc, bf, bs, _⟩ := copyF HBX.out hbe1 HBL.out
    have f0 := bc 0 (by simp); have f2 := bc 2 (by simp); have f3 := bc 3 (by simp); have f5 := bc 5 (by simp)
    simp only [List.getElem_toArray, List.getElem_cons_succ, List.getElem_cons_zero] at f0 f2 f3 f5
    clear bc bf hgr hown hbe1 HO1 HI1 hs1 HV1
    go_wp2_with fail
    refine (HC2.out _).mono ?_
    rintro e w' ⟨rfl, rfl⟩
    clear HC2
    go_wp2_with fail
    refine (HC3.out _).mono ?_
    rintro e w' ⟨rfl, rfl⟩
    clear HC3
    have HO2 : Hid (w1'.ownsRow W1.heap.size 3 1 (.slice va1 (1) vc1) (1) (intVals ([] ++ [a]))) := HOW.out
    have HI2 := hid (HAR.out w1' HBE.out)
    have hs2 : W1.heap.size ≤ w1'.heap.size := HBE.out.size
    have HV2 := hid (HBE.out)
    skip
    clear HOW
    go_wp2_with (at_builtin; refine wpList_append_ints rfl (.tmp 23) (.tmp 25) rfl W1.heap.size (.slice va1 (1) vc1) rfl (1) (intVals ([] ++ [a])) HO2.out (by omega) (.slice pa xl pc) xp rfl HI2.out (by have := HLN.out; have := HXL.out; omega) hs2 ?_)
    intro v2 w2' hown hgr
    have hbe2 := own_grown HV2.out HO2.out hgr hs2
    have HOW : Hid (w2'.ownsRow W1.heap.size 3 1 v2 (1 + xp.length) (intVals ([] ++ [a] ++ xp))) := by show World.ownsRow _ _ _ _ _ _ _; rw [intVals_append]; exact hown
    clear HBE
    have HBE := hid hbe2
    obtain ⟨va2, vc2, rfl⟩ := own_slice hown
    obtain ⟨bc, bf, bs, _⟩ := copyF HBX.out hbe2 HBL.out
    have f0 := bc 0 (by simp); have f2 := bc 2 (by simp); have f3 := bc 3 (by simp); have f5 := bc 5 (by simp)
    simp only [List.getElem_toArray, List.getElem_cons_succ, List.getElem_cons_zero] at f0 f2 f3 f5
    clear bc bf hgr hown hbe2 HO2 HI2 hs2 HV2
    go_wp2
    go_ret
    refine ⟨(.slice va2 (1 + xp.length) vc2), 1 + xp.length, rfl, ?_, HW1.out.trans (HBE.out.mono HW1.out.size)⟩
    have := owns_base HOW.out HW1.out.size
    simpa [usesL] using this
  · generalize hxl : xp.length = xl at *
    have HXL := hid hxl
    clear hxl hb0 hAB
    obtain ⟨W1, hW1⟩ : ∃ W1, W1 = w.alloc (.cells #[.int .u8 op, .int .i64 ty, .int .i64 a, .int .i64 b, .int .i64 n, .slice pa xl pc, .slice fa fn fc] 46) := ⟨_, rfl⟩
    have HW1 : Hid (Below w.heap.size w W1) := by show Below _ _ _; rw [hW1]; exact HB0.out
    have HBX : Hid (W1.heap[w.heap.size]? = some (.cells #[.int .u8 op, .int .i64 ty, .int .i64 a, .int .i64 b, .int .i64 n, .slice pa xl pc, .slice fa fn fc] 46 (0, 0))) := by show _ = _; rw [hW1]; exact alloc_new _ _
    have HBL : Hid (w.heap.size < W1.heap.size) := (Array.getElem?_eq_some_iff.1 HBX.out).1
    have HAR := hid (fun wx (h : Below W1.heap.size W1 wx) => HA.out.below (HW1.out.trans (h.mono HW1.out.size)))
    have HWE := hid hW1
    have HZ : Hid (W1.heap.size = w.heap.size + 1) := by show _ = _; rw [hW1]; simp
    clear hW1 HB0 HA
    go_enter Tryz.func98, Tryz.ntmps98
    go_wp2_with fail
    refine (HC1.out _).mono ?_
    rintro e w' ⟨rfl, rfl⟩
    clear HC1
    have ho1 : (W1.alloc (.cells #[.int .i64 a] 3)).ownsRow W1.heap.size 3 1 (.slice none 0 0) (0) (intVals ([])) := World.ownsRow_nil _ _ _ _
    have HO1 := hid ho1
    have HI1 := hid (ints_one (w := (W1.alloc (.cells #[.int .i64 a] 3))) (b := (w.heap.size + 1)) (n := a) (cell_new _ _ _ _ HZ.out) (size_new _ _ _ HZ.out))
    have hs1 : W1.heap.size ≤ (W1.alloc (.cells #[.int .i64 a] 3)).heap.size := by simp
    have HV1 := hid ((Below.refl W1.heap.size W1).alloc (Nat.le_refl _) (.cells #[.int .i64 a] 3))
    clear ho1
    go_wp2_with (at_builtin; rw [← HWE.out]; refine wpList_append_ints rfl (.tmp 7) (.tmp 10) rfl W1.heap.size (.slice none 0 0) rfl (0) (intVals ([])) HO1.out (by omega) (.slice (some ⟨(w.heap.size + 1), 0, none⟩) 1 1) [a] rfl HI1.out (by simp) hs1 ?_)
    intro v1 w1' hown hgr
    have hbe1 := own_grown HV1.out HO1.out hgr hs1
    have HOW : Hid (w1'.ownsRow W1.heap.size 3 1 v1 (1) (intVals ([] ++ [a]))) := by show World.ownsRow _ _ _ _ _ _ _; rw [intVals_append]; exact hown
    have HBE := hid hbe1
    obtain ⟨va1, vc1, rfl⟩ := own_slice hown
    obtain ⟨bc, bf, bs, _⟩ := copyF HBX.out hbe1 HBL.out
    have f0 := bc 0 (by simp); have f2 := bc 2 (by simp); have f3 := bc 3 (by simp); have f5 := bc 5 (by simp)
    simp only [List.getElem_toArray, List.getElem_cons_succ, List.getElem_cons_zero] at f0 f2 f3 f5
    clear bc bf hgr hown hbe1 HO1 HI1 hs1 HV1
    go_wp2_with fail
    refine (HC2.out _).mono ?_
    rintro e w' ⟨rfl, rfl⟩
    clear HC2
    have ho2 : (w1'.alloc (.cells #[.int .i64 b] 3)).ownsRow W1.heap.size 3 1 (.slice va1 (1) vc1) (1) (intVals ([] ++ [a])) := HOW.out.alloc _
    have HO2 := hid ho2
    have HI2 := hid (ints_one (w := (w1'.alloc (.cells #[.int .i64 b] 3))) (b := w1'.heap.size) (n := b) (cell_new _ _ _ _ rfl) (size_new _ _ _ rfl))
    have hs2 : W1.heap.size ≤ (w1'.alloc (.cells #[.int .i64 b] 3)).heap.size := by have := HBE.out.size; simp; omega
    have HV2 := hid (HBE.out.alloc HBE.out.size (.cells #[.int .i64 b] 3))
    clear ho2
    clear HOW
    go_wp2_with (at_builtin; refine wpList_append_ints rfl (.tmp 15) (.tmp 18) rfl W1.heap.size (.slice va1 (1) vc1) rfl (1) (intVals ([] ++ [a])) HO2.out (by omega) (.slice (some ⟨w1'.heap.size, 0, none⟩) 1 1) [b] rfl HI2.out (by simp) hs2 ?_)
    intro v2 w2' hown hgr
    have hbe2 := own_grown HV2.out HO2.out hgr hs2
    have HOW : Hid (w2'.ownsRow W1.heap.size 3 1 v2 (2) (intVals ([] ++ [a] ++ [b]))) := by show World.ownsRow _ _ _ _ _ _ _; rw [intVals_append]; exact hown
    clear HBE
    have HBE := hid hbe2
    obtain ⟨va2, vc2, rfl⟩ := own_slice hown
    obtain ⟨bc, bf, bs, _⟩ := copyF HBX.out hbe2 HBL.out
    have f0 := bc 0 (by simp); have f2 := bc 2 (by simp); have f3 := bc 3 (by simp); have f5 := bc 5 (by simp)
    simp only [List.getElem_toArray, List.getElem_cons_succ, List.getElem_cons_zero] at f0 f2 f3 f5
    clear bc bf hgr hown hbe2 HO2 HI2 hs2 HV2
    go_wp2_with fail
    refine (HC3.out _).mono ?_
    rintro e w' ⟨rfl, rfl⟩
    clear HC3
    go_wp2
    go_ret
    refine ⟨(.slice va2 (2) vc2), 2, rfl, ?_, HW1.out.trans (HBE.out.mono HW1.out.size)⟩
    have := owns_base HOW.out HW1.out.size
    simpa [usesL] using this
end Go.Proofs.YtimnjkdhcnhkoaaGreatDoor.ShV
