/- Walks over shape.Uses and shape.Ends, and the reference's two, HasA, HasArgs, Answers, Uses, Ends. -/
import Derived.Test.YtaegidmodenomaaDoorShA
import Derived.Test.YtaegidmodenomaaDoorTyTP
namespace Go.Proofs.YtaegidmodenomaaDoor.ShB
open Go.RowKit Go.Lib SetP IntO TyM TyP TyB ShM ShP ShA

/-- what is known of a block behind a call -/
theorem copyF {W w1 : World} {b B : Nat} {cs : Array Value} {ty : TypeId} (hw : W.heap[b]? = some (.cells cs ty (0, 0))) (hb : Below B W w1) (hB : b < B) :
    (∀ i (h : i < cs.size), w1.cell? ⟨b, i, none⟩ = some cs[i]) ∧ (∀ i, w1.frozen? ⟨b, i, none⟩ = false) ∧ b < w1.heap.size ∧ w1.heap[b]? = some (.cells cs ty (0, 0)) := by
  have hk := (hb.block b hB).trans hw
  refine ⟨fun i h => ?_, fun i => ?_, (Array.getElem?_eq_some_iff.1 hk).1, hk⟩
  · unfold World.cell?; rw [hk]; simp [h]
  · unfold World.frozen?; rw [hk]; simp
theorem alloc_new (w : World) (o : Obj) : (w.alloc o).heap[w.heap.size]? = some o := by
  show (w.heap.push o)[w.heap.size]? = some o
  simp
theorem alloc_old {w : World} {b : Nat} {o : Obj} (h : w.heap[b]? = some o) (o' : Obj) : (w.alloc o').heap[b]? = some o :=
  (Below.heap_alloc _ _ _ (Array.getElem?_eq_some_iff.1 h).1).trans h
theorem own_grown {B : Nat} {w0 w w' : World} {u : Value} {m : Nat} {xs : List Value} {ty : TypeId} {s : Nat} (hb : Below B w0 w) (ho : w.ownsRow B ty s u m xs) (hg : w.grownBy w' u.ownBlock) (hB : B ≤ w.heap.size) : Below B w0 w' :=
  hb.grown hg hB fun g hgg => (ho.lt g hgg).1
theorem cell_new (w : World) (v : Value) (t : TypeId) (n : Nat) (h : w.heap.size = n) : (w.alloc (.cells #[v] t)).cell? ⟨n, 0, none⟩ = some v := by subst h; simp
theorem size_new (w : World) (o : Obj) (n : Nat) (h : w.heap.size = n) : n < (w.alloc o).heap.size := by subst h; simp
theorem own_slice {w : World} {B m s : Nat} {e : TypeId} {v : Value} {xs : List Value} (h : w.ownsRow B e s v m xs) : ∃ a c, v = .slice a m c := by
  rcases h.2 with ⟨rfl, h0⟩ | ⟨_, _, _, rfl, _⟩
  · rw [h0]; exact ⟨_, _, rfl⟩
  · exact ⟨_, _, rfl⟩

/-- the registers that an instruction reads, by three tests -/
def usesL (A B M : Bool) (a b : Int) (l : List Int) : List Int := (if A = true then [a] else []) ++ ((if B = true then [b] else []) ++ (if M = true then l else []))
theorem uses_tells (x : Ix) (h0 : 0 ≤ x.op) : usesOf x = usesL (decide ((hasOf x.op).a = 3)) (decide ((hasOf x.op).b = 3)) (decide (0 < (hasOf x.op).most)) x.a x.b x.args := by
  obtain ⟨_, h1, h2, h3⟩ := has_tells h0
  unfold usesL
  rw [h1, h2, h3]; rfl


theorem op_list {op : Int} (h0 : 0 ≤ op) : op = 0 ∨ op = 1 ∨ op = 2 ∨ op = 3 ∨ op = 4 ∨ op = 5 ∨ op = 6 ∨ op = 7 ∨ op = 8 ∨ op = 9 ∨ op = 10 ∨ op = 11 ∨ op = 12 ∨ op = 13 ∨ op = 14 ∨ op = 15 ∨ op = 16 ∨ op = 17 ∨ op = 18 ∨ op = 19 ∨ op = 20 ∨ op = 21 ∨ op = 22 ∨ 23 ≤ op := by omega
theorem over_two {op : Int} (h : 23 ≤ op) : twoB op = false := by unfold twoB; simp; omega
theorem over_hasA {op : Int} (h : 23 ≤ op) : hasAB op = false := by unfold hasAB; rw [over_two h]; simp; omega
theorem over_args {op : Int} (h : 23 ≤ op) : argsB op = false := by unfold argsB; simp; omega
theorem over_answers {op : Int} (h : 23 ≤ op) : answersB op = false := by unfold answersB; simp; omega
/-- a bool, and nothing more -/
def PureR (b : Bool) (w : World) (e : Ending) (w' : World) : Prop := e = .returned (.bool b) ∧ w = w'

set_option maxHeartbeats 2000000 in
theorem two_calls (op : Int) (h0 : 0 ≤ op) (h2 : op ≤ 255) (w : World) : Calls Tryd.prog 60 #[.int .u8 op] w (PureR (twoB op) w) := by
  rcases op_list h0 with rfl | rfl | rfl | rfl | rfl | rfl | rfl | rfl | rfl | rfl | rfl | rfl | rfl | rfl | rfl | rfl | rfl | rfl | rfl | rfl | rfl | rfl | rfl | h
  · show Calls _ _ _ _ (PureR false w)
    go_enter Tryd.func60, Tryd.ntmps60
    go_wp2
    go_ret
    exact ⟨rfl, rfl⟩
  · show Calls _ _ _ _ (PureR false w)
    go_enter Tryd.func60, Tryd.ntmps60
    go_wp2
    go_ret
    exact ⟨rfl, rfl⟩
  · show Calls _ _ _ _ (PureR false w)
    go_enter Tryd.func60, Tryd.ntmps60
    go_wp2
    go_ret
    exact ⟨rfl, rfl⟩
  · show Calls _ _ _ _ (PureR false w)
    go_enter Tryd.func60, Tryd.ntmps60
    go_wp2
    go_ret
    exact ⟨rfl, rfl⟩
  · show Calls _ _ _ _ (PureR true w)
    go_enter Tryd.func60, Tryd.ntmps60
    go_wp2
    go_ret
    exact ⟨rfl, rfl⟩
  · show Calls _ _ _ _ (PureR true w)
    go_enter Tryd.func60, Tryd.ntmps60
    go_wp2
    go_ret
    exact ⟨rfl, rfl⟩
  · show Calls _ _ _ _ (PureR true w)
    go_enter Tryd.func60, Tryd.ntmps60
    go_wp2
    go_ret
    exact ⟨rfl, rfl⟩
  · show Calls _ _ _ _ (PureR true w)
    go_enter Tryd.func60, Tryd.ntmps60
    go_wp2
    go_ret
    exact ⟨rfl, rfl⟩
  · show Calls _ _ _ _ (PureR true w)
    go_enter Tryd.func60, Tryd.ntmps60
    go_wp2
    go_ret
    exact ⟨rfl, rfl⟩
  · show Calls _ _ _ _ (PureR true w)
    go_enter Tryd.func60, Tryd.ntmps60
    go_wp2
    go_ret
    exact ⟨rfl, rfl⟩
  · show Calls _ _ _ _ (PureR true w)
    go_enter Tryd.func60, Tryd.ntmps60
    go_wp2
    go_ret
    exact ⟨rfl, rfl⟩
  · show Calls _ _ _ _ (PureR false w)
    go_enter Tryd.func60, Tryd.ntmps60
    go_wp2
    go_ret
    exact ⟨rfl, rfl⟩
  · show Calls _ _ _ _ (PureR false w)
    go_enter Tryd.func60, Tryd.ntmps60
    go_wp2
    go_ret
    exact ⟨rfl, rfl⟩
  · show Calls _ _ _ _ (PureR false w)
    go_enter Tryd.func60, Tryd.ntmps60
    go_wp2
    go_ret
    exact ⟨rfl, rfl⟩
  · show Calls _ _ _ _ (PureR false w)
    go_enter Tryd.func60, Tryd.ntmps60
    go_wp2
    go_ret
    exact ⟨rfl, rfl⟩
  · show Calls _ _ _ _ (PureR true w)
    go_enter Tryd.func60, Tryd.ntmps60
    go_wp2
    go_ret
    exact ⟨rfl, rfl⟩
  · show Calls _ _ _ _ (PureR false w)
    go_enter Tryd.func60, Tryd.ntmps60
    go_wp2
    go_ret
    exact ⟨rfl, rfl⟩
  · show Calls _ _ _ _ (PureR true w)
    go_enter Tryd.func60, Tryd.ntmps60
    go_wp2
    go_ret
    exact ⟨rfl, rfl⟩
  · show Calls _ _ _ _ (PureR false w)
    go_enter Tryd.func60, Tryd.ntmps60
    go_wp2
    go_ret
    exact ⟨rfl, rfl⟩
  · show Calls _ _ _ _ (PureR false w)
    go_enter Tryd.func60, Tryd.ntmps60
    go_wp2
    go_ret
    exact ⟨rfl, rfl⟩
  · show Calls _ _ _ _ (PureR false w)
    go_enter Tryd.func60, Tryd.ntmps60
    go_wp2
    go_ret
    exact ⟨rfl, rfl⟩
  · show Calls _ _ _ _ (PureR false w)
    go_enter Tryd.func60, Tryd.ntmps60
    go_wp2
    go_ret
    exact ⟨rfl, rfl⟩
  · show Calls _ _ _ _ (PureR false w)
    go_enter Tryd.func60, Tryd.ntmps60
    go_wp2
    go_ret
    exact ⟨rfl, rfl⟩
  · rw [over_two h]
    have n0 : ¬ op ≤ 10 := by omega
    have n1 : ¬ op ≤ 22 := by omega
    have p0 : 4 ≤ op := by omega
    have p1 : 1 ≤ op := by omega
    have q13 : (op == 13) = false := by simp; omega
    have q14 : (op == 14) = false := by simp; omega
    have q15 : (op == 15) = false := by simp; omega
    have q16 : (op == 16) = false := by simp; omega
    have q17 : (op == 17) = false := by simp; omega
    have q18 : (op == 18) = false := by simp; omega
    have q19 : (op == 19) = false := by simp; omega
    have q21 : (op == 21) = false := by simp; omega
    have q22 : (op == 22) = false := by simp; omega
    go_enter Tryd.func60, Tryd.ntmps60
    go_wp2
    go_ret
    exact ⟨rfl, rfl⟩
set_option maxHeartbeats 2000000 in
theorem hasA_calls (op : Int) (h0 : 0 ≤ op) (h2 : op ≤ 255) (w : World) : Calls Tryd.prog 59 #[.int .u8 op] w (PureR (hasAB op) w) := by
  rcases op_list h0 with rfl | rfl | rfl | rfl | rfl | rfl | rfl | rfl | rfl | rfl | rfl | rfl | rfl | rfl | rfl | rfl | rfl | rfl | rfl | rfl | rfl | rfl | rfl | h
  · show Calls _ _ _ _ (PureR false w)
    have HT : Hid (Calls Tryd.prog 60 #[.int .u8 0] w (PureR _ w)) := two_calls _ h0 h2 w
    go_enter Tryd.func59, Tryd.ntmps59
    go_wp2_with fail
    refine HT.out.mono ?_
    rintro e w1 ⟨rfl, rfl⟩
    clear HT
    go_wp2
    go_ret
    exact ⟨rfl, rfl⟩
  · show Calls _ _ _ _ (PureR false w)
    have HT : Hid (Calls Tryd.prog 60 #[.int .u8 1] w (PureR _ w)) := two_calls _ h0 h2 w
    go_enter Tryd.func59, Tryd.ntmps59
    go_wp2_with fail
    refine HT.out.mono ?_
    rintro e w1 ⟨rfl, rfl⟩
    clear HT
    go_wp2
    go_ret
    exact ⟨rfl, rfl⟩
  · show Calls _ _ _ _ (PureR false w)
    have HT : Hid (Calls Tryd.prog 60 #[.int .u8 2] w (PureR _ w)) := two_calls _ h0 h2 w
    go_enter Tryd.func59, Tryd.ntmps59
    go_wp2_with fail
    refine HT.out.mono ?_
    rintro e w1 ⟨rfl, rfl⟩
    clear HT
    go_wp2
    go_ret
    exact ⟨rfl, rfl⟩
  · show Calls _ _ _ _ (PureR false w)
    have HT : Hid (Calls Tryd.prog 60 #[.int .u8 3] w (PureR _ w)) := two_calls _ h0 h2 w
    go_enter Tryd.func59, Tryd.ntmps59
    go_wp2_with fail
    refine HT.out.mono ?_
    rintro e w1 ⟨rfl, rfl⟩
    clear HT
    go_wp2
    go_ret
    exact ⟨rfl, rfl⟩
  · show Calls _ _ _ _ (PureR true w)
    have HT : Hid (Calls Tryd.prog 60 #[.int .u8 4] w (PureR _ w)) := two_calls _ h0 h2 w
    go_enter Tryd.func59, Tryd.ntmps59
    go_wp2_with fail
    refine HT.out.mono ?_
    rintro e w1 ⟨rfl, rfl⟩
    clear HT
    go_wp2
    go_ret
    exact ⟨rfl, rfl⟩
  · show Calls _ _ _ _ (PureR true w)
    have HT : Hid (Calls Tryd.prog 60 #[.int .u8 5] w (PureR _ w)) := two_calls _ h0 h2 w
    go_enter Tryd.func59, Tryd.ntmps59
    go_wp2_with fail
    refine HT.out.mono ?_
    rintro e w1 ⟨rfl, rfl⟩
    clear HT
    go_wp2
    go_ret
    exact ⟨rfl, rfl⟩
  · show Calls _ _ _ _ (PureR true w)
    have HT : Hid (Calls Tryd.prog 60 #[.int .u8 6] w (PureR _ w)) := two_calls _ h0 h2 w
    go_enter Tryd.func59, Tryd.ntmps59
    go_wp2_with fail
    refine HT.out.mono ?_
    rintro e w1 ⟨rfl, rfl⟩
    clear HT
    go_wp2
    go_ret
    exact ⟨rfl, rfl⟩
  · show Calls _ _ _ _ (PureR true w)
    have HT : Hid (Calls Tryd.prog 60 #[.int .u8 7] w (PureR _ w)) := two_calls _ h0 h2 w
    go_enter Tryd.func59, Tryd.ntmps59
    go_wp2_with fail
    refine HT.out.mono ?_
    rintro e w1 ⟨rfl, rfl⟩
    clear HT
    go_wp2
    go_ret
    exact ⟨rfl, rfl⟩
  · show Calls _ _ _ _ (PureR true w)
    have HT : Hid (Calls Tryd.prog 60 #[.int .u8 8] w (PureR _ w)) := two_calls _ h0 h2 w
    go_enter Tryd.func59, Tryd.ntmps59
    go_wp2_with fail
    refine HT.out.mono ?_
    rintro e w1 ⟨rfl, rfl⟩
    clear HT
    go_wp2
    go_ret
    exact ⟨rfl, rfl⟩
  · show Calls _ _ _ _ (PureR true w)
    have HT : Hid (Calls Tryd.prog 60 #[.int .u8 9] w (PureR _ w)) := two_calls _ h0 h2 w
    go_enter Tryd.func59, Tryd.ntmps59
    go_wp2_with fail
    refine HT.out.mono ?_
    rintro e w1 ⟨rfl, rfl⟩
    clear HT
    go_wp2
    go_ret
    exact ⟨rfl, rfl⟩
  · show Calls _ _ _ _ (PureR true w)
    have HT : Hid (Calls Tryd.prog 60 #[.int .u8 10] w (PureR _ w)) := two_calls _ h0 h2 w
    go_enter Tryd.func59, Tryd.ntmps59
    go_wp2_with fail
    refine HT.out.mono ?_
    rintro e w1 ⟨rfl, rfl⟩
    clear HT
    go_wp2
    go_ret
    exact ⟨rfl, rfl⟩
  · show Calls _ _ _ _ (PureR false w)
    have HT : Hid (Calls Tryd.prog 60 #[.int .u8 11] w (PureR _ w)) := two_calls _ h0 h2 w
    go_enter Tryd.func59, Tryd.ntmps59
    go_wp2_with fail
    refine HT.out.mono ?_
    rintro e w1 ⟨rfl, rfl⟩
    clear HT
    go_wp2
    go_ret
    exact ⟨rfl, rfl⟩
  · show Calls _ _ _ _ (PureR false w)
    have HT : Hid (Calls Tryd.prog 60 #[.int .u8 12] w (PureR _ w)) := two_calls _ h0 h2 w
    go_enter Tryd.func59, Tryd.ntmps59
    go_wp2_with fail
    refine HT.out.mono ?_
    rintro e w1 ⟨rfl, rfl⟩
    clear HT
    go_wp2
    go_ret
    exact ⟨rfl, rfl⟩
  · show Calls _ _ _ _ (PureR true w)
    have HT : Hid (Calls Tryd.prog 60 #[.int .u8 13] w (PureR _ w)) := two_calls _ h0 h2 w
    go_enter Tryd.func59, Tryd.ntmps59
    go_wp2_with fail
    refine HT.out.mono ?_
    rintro e w1 ⟨rfl, rfl⟩
    clear HT
    go_wp2
    go_ret
    exact ⟨rfl, rfl⟩
  · show Calls _ _ _ _ (PureR true w)
    have HT : Hid (Calls Tryd.prog 60 #[.int .u8 14] w (PureR _ w)) := two_calls _ h0 h2 w
    go_enter Tryd.func59, Tryd.ntmps59
    go_wp2_with fail
    refine HT.out.mono ?_
    rintro e w1 ⟨rfl, rfl⟩
    clear HT
    go_wp2
    go_ret
    exact ⟨rfl, rfl⟩
  · show Calls _ _ _ _ (PureR true w)
    have HT : Hid (Calls Tryd.prog 60 #[.int .u8 15] w (PureR _ w)) := two_calls _ h0 h2 w
    go_enter Tryd.func59, Tryd.ntmps59
    go_wp2_with fail
    refine HT.out.mono ?_
    rintro e w1 ⟨rfl, rfl⟩
    clear HT
    go_wp2
    go_ret
    exact ⟨rfl, rfl⟩
  · show Calls _ _ _ _ (PureR true w)
    have HT : Hid (Calls Tryd.prog 60 #[.int .u8 16] w (PureR _ w)) := two_calls _ h0 h2 w
    go_enter Tryd.func59, Tryd.ntmps59
    go_wp2_with fail
    refine HT.out.mono ?_
    rintro e w1 ⟨rfl, rfl⟩
    clear HT
    go_wp2
    go_ret
    exact ⟨rfl, rfl⟩
  · show Calls _ _ _ _ (PureR true w)
    have HT : Hid (Calls Tryd.prog 60 #[.int .u8 17] w (PureR _ w)) := two_calls _ h0 h2 w
    go_enter Tryd.func59, Tryd.ntmps59
    go_wp2_with fail
    refine HT.out.mono ?_
    rintro e w1 ⟨rfl, rfl⟩
    clear HT
    go_wp2
    go_ret
    exact ⟨rfl, rfl⟩
  · show Calls _ _ _ _ (PureR false w)
    have HT : Hid (Calls Tryd.prog 60 #[.int .u8 18] w (PureR _ w)) := two_calls _ h0 h2 w
    go_enter Tryd.func59, Tryd.ntmps59
    go_wp2_with fail
    refine HT.out.mono ?_
    rintro e w1 ⟨rfl, rfl⟩
    clear HT
    go_wp2
    go_ret
    exact ⟨rfl, rfl⟩
  · show Calls _ _ _ _ (PureR true w)
    have HT : Hid (Calls Tryd.prog 60 #[.int .u8 19] w (PureR _ w)) := two_calls _ h0 h2 w
    go_enter Tryd.func59, Tryd.ntmps59
    go_wp2_with fail
    refine HT.out.mono ?_
    rintro e w1 ⟨rfl, rfl⟩
    clear HT
    go_wp2
    go_ret
    exact ⟨rfl, rfl⟩
  · show Calls _ _ _ _ (PureR false w)
    have HT : Hid (Calls Tryd.prog 60 #[.int .u8 20] w (PureR _ w)) := two_calls _ h0 h2 w
    go_enter Tryd.func59, Tryd.ntmps59
    go_wp2_with fail
    refine HT.out.mono ?_
    rintro e w1 ⟨rfl, rfl⟩
    clear HT
    go_wp2
    go_ret
    exact ⟨rfl, rfl⟩
  · show Calls _ _ _ _ (PureR true w)
    have HT : Hid (Calls Tryd.prog 60 #[.int .u8 21] w (PureR _ w)) := two_calls _ h0 h2 w
    go_enter Tryd.func59, Tryd.ntmps59
    go_wp2_with fail
    refine HT.out.mono ?_
    rintro e w1 ⟨rfl, rfl⟩
    clear HT
    go_wp2
    go_ret
    exact ⟨rfl, rfl⟩
  · show Calls _ _ _ _ (PureR false w)
    have HT : Hid (Calls Tryd.prog 60 #[.int .u8 22] w (PureR _ w)) := two_calls _ h0 h2 w
    go_enter Tryd.func59, Tryd.ntmps59
    go_wp2_with fail
    refine HT.out.mono ?_
    rintro e w1 ⟨rfl, rfl⟩
    clear HT
    go_wp2
    go_ret
    exact ⟨rfl, rfl⟩
  · rw [over_hasA h]
    have HT := hid (two_calls op h0 h2 w)
    rw [over_two h] at HT
    have n0 : ¬ op ≤ 10 := by omega
    have n1 : ¬ op ≤ 22 := by omega
    have p0 : 4 ≤ op := by omega
    have p1 : 1 ≤ op := by omega
    have q13 : (op == 13) = false := by simp; omega
    have q14 : (op == 14) = false := by simp; omega
    have q15 : (op == 15) = false := by simp; omega
    have q16 : (op == 16) = false := by simp; omega
    have q17 : (op == 17) = false := by simp; omega
    have q18 : (op == 18) = false := by simp; omega
    have q19 : (op == 19) = false := by simp; omega
    have q21 : (op == 21) = false := by simp; omega
    have q22 : (op == 22) = false := by simp; omega
    go_enter Tryd.func59, Tryd.ntmps59
    go_wp2_with fail
    refine HT.out.mono ?_
    rintro e w1 ⟨rfl, rfl⟩
    clear HT
    go_wp2
    go_ret
    exact ⟨rfl, rfl⟩
set_option maxHeartbeats 2000000 in
theorem hasArgs_calls (op : Int) (h0 : 0 ≤ op) (h2 : op ≤ 255) (w : World) : Calls Tryd.prog 61 #[.int .u8 op] w (PureR (argsB op) w) := by
  rcases op_list h0 with rfl | rfl | rfl | rfl | rfl | rfl | rfl | rfl | rfl | rfl | rfl | rfl | rfl | rfl | rfl | rfl | rfl | rfl | rfl | rfl | rfl | rfl | rfl | h
  · show Calls _ _ _ _ (PureR false w)
    go_enter Tryd.func61, Tryd.ntmps61
    go_wp2
    go_ret
    exact ⟨rfl, rfl⟩
  · show Calls _ _ _ _ (PureR false w)
    go_enter Tryd.func61, Tryd.ntmps61
    go_wp2
    go_ret
    exact ⟨rfl, rfl⟩
  · show Calls _ _ _ _ (PureR false w)
    go_enter Tryd.func61, Tryd.ntmps61
    go_wp2
    go_ret
    exact ⟨rfl, rfl⟩
  · show Calls _ _ _ _ (PureR false w)
    go_enter Tryd.func61, Tryd.ntmps61
    go_wp2
    go_ret
    exact ⟨rfl, rfl⟩
  · show Calls _ _ _ _ (PureR false w)
    go_enter Tryd.func61, Tryd.ntmps61
    go_wp2
    go_ret
    exact ⟨rfl, rfl⟩
  · show Calls _ _ _ _ (PureR false w)
    go_enter Tryd.func61, Tryd.ntmps61
    go_wp2
    go_ret
    exact ⟨rfl, rfl⟩
  · show Calls _ _ _ _ (PureR false w)
    go_enter Tryd.func61, Tryd.ntmps61
    go_wp2
    go_ret
    exact ⟨rfl, rfl⟩
  · show Calls _ _ _ _ (PureR false w)
    go_enter Tryd.func61, Tryd.ntmps61
    go_wp2
    go_ret
    exact ⟨rfl, rfl⟩
  · show Calls _ _ _ _ (PureR false w)
    go_enter Tryd.func61, Tryd.ntmps61
    go_wp2
    go_ret
    exact ⟨rfl, rfl⟩
  · show Calls _ _ _ _ (PureR false w)
    go_enter Tryd.func61, Tryd.ntmps61
    go_wp2
    go_ret
    exact ⟨rfl, rfl⟩
  · show Calls _ _ _ _ (PureR false w)
    go_enter Tryd.func61, Tryd.ntmps61
    go_wp2
    go_ret
    exact ⟨rfl, rfl⟩
  · show Calls _ _ _ _ (PureR false w)
    go_enter Tryd.func61, Tryd.ntmps61
    go_wp2
    go_ret
    exact ⟨rfl, rfl⟩
  · show Calls _ _ _ _ (PureR false w)
    go_enter Tryd.func61, Tryd.ntmps61
    go_wp2
    go_ret
    exact ⟨rfl, rfl⟩
  · show Calls _ _ _ _ (PureR false w)
    go_enter Tryd.func61, Tryd.ntmps61
    go_wp2
    go_ret
    exact ⟨rfl, rfl⟩
  · show Calls _ _ _ _ (PureR false w)
    go_enter Tryd.func61, Tryd.ntmps61
    go_wp2
    go_ret
    exact ⟨rfl, rfl⟩
  · show Calls _ _ _ _ (PureR false w)
    go_enter Tryd.func61, Tryd.ntmps61
    go_wp2
    go_ret
    exact ⟨rfl, rfl⟩
  · show Calls _ _ _ _ (PureR false w)
    go_enter Tryd.func61, Tryd.ntmps61
    go_wp2
    go_ret
    exact ⟨rfl, rfl⟩
  · show Calls _ _ _ _ (PureR false w)
    go_enter Tryd.func61, Tryd.ntmps61
    go_wp2
    go_ret
    exact ⟨rfl, rfl⟩
  · show Calls _ _ _ _ (PureR true w)
    go_enter Tryd.func61, Tryd.ntmps61
    go_wp2
    go_ret
    exact ⟨rfl, rfl⟩
  · show Calls _ _ _ _ (PureR true w)
    go_enter Tryd.func61, Tryd.ntmps61
    go_wp2
    go_ret
    exact ⟨rfl, rfl⟩
  · show Calls _ _ _ _ (PureR false w)
    go_enter Tryd.func61, Tryd.ntmps61
    go_wp2
    go_ret
    exact ⟨rfl, rfl⟩
  · show Calls _ _ _ _ (PureR false w)
    go_enter Tryd.func61, Tryd.ntmps61
    go_wp2
    go_ret
    exact ⟨rfl, rfl⟩
  · show Calls _ _ _ _ (PureR true w)
    go_enter Tryd.func61, Tryd.ntmps61
    go_wp2
    go_ret
    exact ⟨rfl, rfl⟩
  · rw [over_args h]
    have n0 : ¬ op ≤ 10 := by omega
    have n1 : ¬ op ≤ 22 := by omega
    have p0 : 4 ≤ op := by omega
    have p1 : 1 ≤ op := by omega
    have q13 : (op == 13) = false := by simp; omega
    have q14 : (op == 14) = false := by simp; omega
    have q15 : (op == 15) = false := by simp; omega
    have q16 : (op == 16) = false := by simp; omega
    have q17 : (op == 17) = false := by simp; omega
    have q18 : (op == 18) = false := by simp; omega
    have q19 : (op == 19) = false := by simp; omega
    have q21 : (op == 21) = false := by simp; omega
    have q22 : (op == 22) = false := by simp; omega
    go_enter Tryd.func61, Tryd.ntmps61
    go_wp2
    go_ret
    exact ⟨rfl, rfl⟩
set_option maxHeartbeats 2000000 in
theorem answersR_calls (op : Int) (h0 : 0 ≤ op) (h2 : op ≤ 255) (w : World) : Calls Tryd.prog 27 #[.int .u8 op] w (PureR (answersB op) w) := by
  rcases op_list h0 with rfl | rfl | rfl | rfl | rfl | rfl | rfl | rfl | rfl | rfl | rfl | rfl | rfl | rfl | rfl | rfl | rfl | rfl | rfl | rfl | rfl | rfl | rfl | h
  · show Calls _ _ _ _ (PureR false w)
    go_enter Tryd.func27, Tryd.ntmps27
    go_wp2
    go_ret
    exact ⟨rfl, rfl⟩
  · show Calls _ _ _ _ (PureR true w)
    go_enter Tryd.func27, Tryd.ntmps27
    go_wp2
    go_ret
    exact ⟨rfl, rfl⟩
  · show Calls _ _ _ _ (PureR true w)
    go_enter Tryd.func27, Tryd.ntmps27
    go_wp2
    go_ret
    exact ⟨rfl, rfl⟩
  · show Calls _ _ _ _ (PureR true w)
    go_enter Tryd.func27, Tryd.ntmps27
    go_wp2
    go_ret
    exact ⟨rfl, rfl⟩
  · show Calls _ _ _ _ (PureR true w)
    go_enter Tryd.func27, Tryd.ntmps27
    go_wp2
    go_ret
    exact ⟨rfl, rfl⟩
  · show Calls _ _ _ _ (PureR true w)
    go_enter Tryd.func27, Tryd.ntmps27
    go_wp2
    go_ret
    exact ⟨rfl, rfl⟩
  · show Calls _ _ _ _ (PureR true w)
    go_enter Tryd.func27, Tryd.ntmps27
    go_wp2
    go_ret
    exact ⟨rfl, rfl⟩
  · show Calls _ _ _ _ (PureR true w)
    go_enter Tryd.func27, Tryd.ntmps27
    go_wp2
    go_ret
    exact ⟨rfl, rfl⟩
  · show Calls _ _ _ _ (PureR true w)
    go_enter Tryd.func27, Tryd.ntmps27
    go_wp2
    go_ret
    exact ⟨rfl, rfl⟩
  · show Calls _ _ _ _ (PureR true w)
    go_enter Tryd.func27, Tryd.ntmps27
    go_wp2
    go_ret
    exact ⟨rfl, rfl⟩
  · show Calls _ _ _ _ (PureR true w)
    go_enter Tryd.func27, Tryd.ntmps27
    go_wp2
    go_ret
    exact ⟨rfl, rfl⟩
  · show Calls _ _ _ _ (PureR true w)
    go_enter Tryd.func27, Tryd.ntmps27
    go_wp2
    go_ret
    exact ⟨rfl, rfl⟩
  · show Calls _ _ _ _ (PureR true w)
    go_enter Tryd.func27, Tryd.ntmps27
    go_wp2
    go_ret
    exact ⟨rfl, rfl⟩
  · show Calls _ _ _ _ (PureR false w)
    go_enter Tryd.func27, Tryd.ntmps27
    go_wp2
    go_ret
    exact ⟨rfl, rfl⟩
  · show Calls _ _ _ _ (PureR true w)
    go_enter Tryd.func27, Tryd.ntmps27
    go_wp2
    go_ret
    exact ⟨rfl, rfl⟩
  · show Calls _ _ _ _ (PureR true w)
    go_enter Tryd.func27, Tryd.ntmps27
    go_wp2
    go_ret
    exact ⟨rfl, rfl⟩
  · show Calls _ _ _ _ (PureR true w)
    go_enter Tryd.func27, Tryd.ntmps27
    go_wp2
    go_ret
    exact ⟨rfl, rfl⟩
  · show Calls _ _ _ _ (PureR false w)
    go_enter Tryd.func27, Tryd.ntmps27
    go_wp2
    go_ret
    exact ⟨rfl, rfl⟩
  · show Calls _ _ _ _ (PureR true w)
    go_enter Tryd.func27, Tryd.ntmps27
    go_wp2
    go_ret
    exact ⟨rfl, rfl⟩
  · show Calls _ _ _ _ (PureR true w)
    go_enter Tryd.func27, Tryd.ntmps27
    go_wp2
    go_ret
    exact ⟨rfl, rfl⟩
  · show Calls _ _ _ _ (PureR true w)
    go_enter Tryd.func27, Tryd.ntmps27
    go_wp2
    go_ret
    exact ⟨rfl, rfl⟩
  · show Calls _ _ _ _ (PureR false w)
    go_enter Tryd.func27, Tryd.ntmps27
    go_wp2
    go_ret
    exact ⟨rfl, rfl⟩
  · show Calls _ _ _ _ (PureR true w)
    go_enter Tryd.func27, Tryd.ntmps27
    go_wp2
    go_ret
    exact ⟨rfl, rfl⟩
  · rw [over_answers h]
    have n0 : ¬ op ≤ 10 := by omega
    have n1 : ¬ op ≤ 22 := by omega
    have p0 : 4 ≤ op := by omega
    have p1 : 1 ≤ op := by omega
    have q13 : (op == 13) = false := by simp; omega
    have q14 : (op == 14) = false := by simp; omega
    have q15 : (op == 15) = false := by simp; omega
    have q16 : (op == 16) = false := by simp; omega
    have q17 : (op == 17) = false := by simp; omega
    have q18 : (op == 18) = false := by simp; omega
    have q19 : (op == 19) = false := by simp; omega
    have q21 : (op == 21) = false := by simp; omega
    have q22 : (op == 22) = false := by simp; omega
    go_enter Tryd.func27, Tryd.ntmps27
    go_wp2
    go_ret
    exact ⟨rfl, rfl⟩
end Go.Proofs.YtaegidmodenomaaDoor.ShB
