/- Two sets, word by word: plain facts; and walks over the closures of bits.Or, And, Minus. -/
import Derived.Test.YtecfjjpdlohmnaaDoorSetT
import Derived.Shelf.Abstract
import Derived.Laws.Bits64b
namespace Go.Proofs.YtecfjjpdlohmnaaDoor.BitOps
open Go.RowKit Go.Lib SetP SetO SetNum SetIn SetWith SetT

/-- a word's bits -/
def U (x : Int) : Prop := 0 ≤ x ∧ x ≤ 18446744073709551615
/-- F does to words what fb does to each bit -/
structure OpOk (F : Int → Int → Int) (fb : Bool → Bool → Bool) : Prop where
  u : ∀ x y, U x → U y → U (F x y)
  bit : ∀ x y k, U x → U y → k < 64 → bitOf (F x y) k = fb (bitOf x k) (bitOf y k)
  none : fb false false = false

def emit (p z : Int) : List Wd := if z = 0 then [] else [(p, z)]
theorem emit_zero (p : Int) : emit p 0 = [] := if_pos rfl
theorem emit_some (p : Int) {z : Int} (h : z ≠ 0) : emit p z = [(p, z)] := if_neg h

/-- both, word by word -/
def mergeS (F : Int → Int → Int) : List Wd → List Wd → List Wd
  | [], [] => []
  | x :: a, [] => emit x.1 (F x.2 0) ++ mergeS F a []
  | [], y :: b => emit y.1 (F 0 y.2) ++ mergeS F [] b
  | x :: a, y :: b => if x.1 < y.1 then emit x.1 (F x.2 0) ++ mergeS F a (y :: b) else if y.1 < x.1 then emit y.1 (F 0 y.2) ++ mergeS F (x :: a) b else emit y.1 (F x.2 y.2) ++ mergeS F a b
  termination_by a b => a.length + b.length

theorem mem_emit {p z : Int} {y : Wd} (h : y ∈ emit p z) : y = (p, z) ∧ z ≠ 0 := by
  unfold emit at h
  split at h
  · cases h
  · exact ⟨List.mem_singleton.1 h, by assumption⟩

theorem merge_all {F : Int → Int → Int} {fb} (hF : OpOk F fb) (P : Int → Prop) : ∀ (a b : List Wd), (∀ x ∈ a, P x.1 ∧ U x.2) → (∀ y ∈ b, P y.1 ∧ U y.2) → ∀ z ∈ mergeS F a b, P z.1 ∧ U z.2 ∧ z.2 ≠ 0
  | [], [], _, _, z, hz => by rw [mergeS] at hz; cases hz
  | x :: a, [], ha, hb, z, hz => by
    rw [mergeS] at hz
    obtain ⟨p, u⟩ := ha x (by simp)
    rcases List.mem_append.1 hz with hz | hz
    · obtain ⟨rfl, h0⟩ := mem_emit hz
      exact ⟨p, hF.u _ _ u ⟨by omega, by omega⟩, h0⟩
    · exact merge_all hF P a [] (fun y hy => ha y (by simp [hy])) hb z hz
  | [], y :: b, ha, hb, z, hz => by
    rw [mergeS] at hz
    obtain ⟨p, u⟩ := hb y (by simp)
    rcases List.mem_append.1 hz with hz | hz
    · obtain ⟨rfl, h0⟩ := mem_emit hz
      exact ⟨p, hF.u _ _ ⟨by omega, by omega⟩ u, h0⟩
    · exact merge_all hF P [] b ha (fun y hy => hb y (by simp [hy])) z hz
  | x :: a, y :: b, ha, hb, z, hz => by
    rw [mergeS] at hz
    obtain ⟨p, u⟩ := ha x (by simp)
    obtain ⟨p2, u2⟩ := hb y (by simp)
    split at hz
    · rcases List.mem_append.1 hz with hz | hz
      · obtain ⟨rfl, h0⟩ := mem_emit hz
        exact ⟨p, hF.u _ _ u ⟨by omega, by omega⟩, h0⟩
      · exact merge_all hF P a (y :: b) (fun y hy => ha y (by simp [hy])) hb z hz
    · split at hz
      · rcases List.mem_append.1 hz with hz | hz
        · obtain ⟨rfl, h0⟩ := mem_emit hz
          exact ⟨p2, hF.u _ _ ⟨by omega, by omega⟩ u2, h0⟩
        · exact merge_all hF P (x :: a) b ha (fun y hy => hb y (by simp [hy])) z hz
      · rcases List.mem_append.1 hz with hz | hz
        · obtain ⟨rfl, h0⟩ := mem_emit hz
          exact ⟨p2, hF.u _ _ u u2, h0⟩
        · exact merge_all hF P a b (fun y hy => ha y (by simp [hy])) (fun y hy => hb y (by simp [hy])) z hz
  termination_by a b => a.length + b.length

theorem rise_emit {p z : Int} {t : List Wd} (ht : t.Pairwise (fun x y => x.1 < y.1)) (h : ∀ y ∈ t, p < y.1) : (emit p z ++ t).Pairwise (fun x y => x.1 < y.1) := by
  unfold emit
  split
  · exact ht
  · exact List.pairwise_cons.2 ⟨h, ht⟩
theorem may_u {a : List Wd} (h : MayW a) : ∀ x ∈ a, U x.2 := fun x hx => by obtain ⟨_, _, c, d⟩ := h.1 x hx; exact ⟨by omega, d⟩

theorem above {a : List Wd} {p : Int} (ha : MayW a) (h : ∀ x ∈ a, p < x.1) : ∀ x ∈ a, p < x.1 ∧ U x.2 := fun x hx => ⟨h x hx, may_u ha x hx⟩
theorem all_nil {Q : Wd → Prop} : ∀ x ∈ ([] : List Wd), Q x := fun x hx => by cases hx
theorem all_cons {Q : Wd → Prop} {x : Wd} {a : List Wd} (h : Q x) (ha : ∀ y ∈ a, Q y) : ∀ y ∈ x :: a, Q y := fun y hy => by
  rcases List.mem_cons.1 hy with rfl | hy
  · exact h
  · exact ha y hy
theorem above_cons {x : Wd} {a : List Wd} {p : Int} (ha : MayW (x :: a)) (h : p < x.1) : ∀ y ∈ x :: a, p < y.1 :=
  all_cons h fun y hy => by have := ha.head y hy; omega

theorem merge_rise {F : Int → Int → Int} {fb} (hF : OpOk F fb) : ∀ (a b : List Wd), MayW a → MayW b → (mergeS F a b).Pairwise (fun x y => x.1 < y.1)
  | [], [], _, _ => by rw [mergeS]; simp
  | x :: a, [], ha, hb => by
    rw [mergeS]
    exact rise_emit (merge_rise hF a [] ha.tail hb) fun z hz => (merge_all hF (x.1 < ·) a [] (above ha.tail ha.head) all_nil z hz).1
  | [], y :: b, ha, hb => by
    rw [mergeS]
    exact rise_emit (merge_rise hF [] b ha hb.tail) fun z hz => (merge_all hF (y.1 < ·) [] b all_nil (above hb.tail hb.head) z hz).1
  | x :: a, y :: b, ha, hb => by
    rw [mergeS]
    split
    · exact rise_emit (merge_rise hF a (y :: b) ha.tail hb) fun z hz => (merge_all hF (x.1 < ·) a (y :: b) (above ha.tail ha.head) (above hb (above_cons hb (by assumption))) z hz).1
    · split
      · exact rise_emit (merge_rise hF (x :: a) b ha hb.tail) fun z hz => (merge_all hF (y.1 < ·) (x :: a) b (above ha (above_cons ha (by assumption))) (above hb.tail hb.head) z hz).1
      · have e : x.1 = y.1 := by omega
        exact rise_emit (merge_rise hF a b ha.tail hb.tail) fun z hz => (merge_all hF (y.1 < ·) a b (above ha.tail (fun z hz => by have := ha.head z hz; omega)) (above hb.tail hb.head) z hz).1
  termination_by a b => a.length + b.length

theorem merge_may {F : Int → Int → Int} {fb} (hF : OpOk F fb) {a b : List Wd} (ha : MayW a) (hb : MayW b) : MayW (mergeS F a b) := by
  refine ⟨fun z hz => ?_, merge_rise hF a b ha hb⟩
  obtain ⟨⟨h1, h2⟩, ⟨h3, h4⟩, h5⟩ := merge_all hF (fun p => 0 ≤ p ∧ p < 16384) a b (fun x hx => by obtain ⟨p, q, _, _⟩ := ha.1 x hx; exact ⟨⟨p, q⟩, may_u ha x hx⟩) (fun x hx => by obtain ⟨p, q, _, _⟩ := hb.1 x hx; exact ⟨⟨p, q⟩, may_u hb x hx⟩) z hz
  exact ⟨h1, h2, by omega, h4⟩

theorem bit_zero (k : Nat) : bitOf 0 k = false := by simp [bitOf]
theorem inS_emit {p z n : Int} {t : List Wd} (h : ∀ y ∈ t, p < y.1) : inS (emit p z ++ t) n = if p = n / 64 then bitOf z (n % 64).toNat else inS t n := by
  unfold emit
  split
  · rename_i hz
    rw [List.nil_append]
    split
    · rw [hz, bit_zero]
      exact inS_out fun y hy => by have := h y hy; omega
    · rfl
  · rw [List.singleton_append, inS_cons]
theorem inS_above {a : List Wd} {p n : Int} (h : ∀ x ∈ a, p < x.1) (hp : p = n / 64) : inS a n = false := inS_out fun y hy => by have := h y hy; omega

theorem inS_merge {F : Int → Int → Int} {fb} (hF : OpOk F fb) (n : Int) (h0 : 0 ≤ n) : ∀ (a b : List Wd), MayW a → MayW b → inS (mergeS F a b) n = fb (inS a n) (inS b n)
  | [], [], _, _ => by rw [mergeS]; simp only [inS]; rw [hF.none]
  | x :: a, [], ha, hb => by
    have hz : ∀ z ∈ mergeS F a [], x.1 < z.1 := fun z hz => (merge_all hF (x.1 < ·) a [] (above ha.tail ha.head) all_nil z hz).1
    rw [mergeS, inS_emit hz, inS_cons, inS_merge hF n h0 a [] ha.tail hb]
    split
    · rw [hF.bit _ _ _ (may_u ha x (by simp)) ⟨by omega, by omega⟩ (by omega), bit_zero]
      simp only [inS]
    · rfl
  | [], y :: b, ha, hb => by
    have hz : ∀ z ∈ mergeS F [] b, y.1 < z.1 := fun z hz => (merge_all hF (y.1 < ·) [] b all_nil (above hb.tail hb.head) z hz).1
    rw [mergeS, inS_emit hz, inS_cons, inS_merge hF n h0 [] b ha hb.tail]
    split
    · rw [hF.bit _ _ _ ⟨by omega, by omega⟩ (may_u hb y (by simp)) (by omega), bit_zero]
      simp only [inS]
    · rfl
  | x :: a, y :: b, ha, hb => by
    rw [mergeS]
    split
    · rename_i hlt
      have hyb := above_cons hb hlt
      have hz : ∀ z ∈ mergeS F a (y :: b), x.1 < z.1 := fun z hz => (merge_all hF (x.1 < ·) a (y :: b) (above ha.tail ha.head) (above hb hyb) z hz).1
      rw [inS_emit hz, inS_cons (x := x), inS_merge hF n h0 a (y :: b) ha.tail hb]
      split
      · rename_i he
        rw [hF.bit _ _ _ (may_u ha x (by simp)) ⟨by omega, by omega⟩ (by omega), bit_zero, inS_above hyb he]
      · rfl
    · split
      · rename_i hlt
        have hxa := above_cons ha hlt
        have hz : ∀ z ∈ mergeS F (x :: a) b, y.1 < z.1 := fun z hz => (merge_all hF (y.1 < ·) (x :: a) b (above ha hxa) (above hb.tail hb.head) z hz).1
        rw [inS_emit hz, inS_cons (x := y), inS_merge hF n h0 (x :: a) b ha hb.tail]
        split
        · rename_i he
          rw [hF.bit _ _ _ ⟨by omega, by omega⟩ (may_u hb y (by simp)) (by omega), bit_zero, inS_above hxa he]
        · rfl
      · have e : x.1 = y.1 := by omega
        have hxa : ∀ z ∈ a, y.1 < z.1 := fun z hz => by have := ha.head z hz; omega
        have hz : ∀ z ∈ mergeS F a b, y.1 < z.1 := fun z hz => (merge_all hF (y.1 < ·) a b (above ha.tail hxa) (above hb.tail hb.head) z hz).1
        rw [inS_emit hz, inS_cons (x := x), inS_cons (x := y), inS_merge hF n h0 a b ha.tail hb.tail, e]
        split
        · rw [hF.bit _ _ _ (may_u ha x (by simp)) (may_u hb y (by simp)) (by omega)]
        · rfl
  termination_by a b => a.length + b.length

/-! the three -/
def orI (x y : Int) : Int := ((x.toNat ||| y.toNat : Nat) : Int)
def andI (x y : Int) : Int := ((x.toNat &&& y.toNat : Nat) : Int)
def minusI (x y : Int) : Int := ((BitVec.ofNat 64 x.toNat &&& ~~~ BitVec.ofNat 64 y.toNat).toNat : Int)
theorem u_nat {x : Int} (h : U x) : x.toNat < 2 ^ 64 ∧ x = (x.toNat : Int) := by
  obtain ⟨a, b⟩ := h
  have e : (2 : Nat) ^ 64 = 18446744073709551616 := by decide
  omega
theorem u_of {n : Nat} (h : n < 2 ^ 64) : U (n : Int) := by
  have e : (2 : Nat) ^ 64 = 18446744073709551616 := by decide
  exact ⟨by omega, by omega⟩
theorem bitOf_nat {x : Int} (h : U x) (k : Nat) : bitOf x k = x.toNat.testBit k := by
  conv => lhs; rw [(u_nat h).2]
  exact bitOf_testBit _ _
theorem or_ok : OpOk orI (· || ·) where
  u x y hx hy := u_of (Nat.or_lt_two_pow (u_nat hx).1 (u_nat hy).1)
  bit x y k hx hy hk := by
    unfold orI
    rw [bitOf_testBit, Nat.testBit_or, bitOf_nat hx, bitOf_nat hy]
  none := rfl
theorem and_ok : OpOk andI (· && ·) where
  u x y hx hy := u_of (Nat.and_lt_two_pow _ (u_nat hy).1)
  bit x y k hx hy hk := by
    unfold andI
    rw [bitOf_testBit, Nat.testBit_and, bitOf_nat hx, bitOf_nat hy]
  none := rfl
theorem minus_ok : OpOk minusI (fun p q => p && !q) where
  u x y hx hy := u_of (BitVec.isLt _)
  bit x y k hx hy hk := by
    unfold minusI
    rw [bitOf_testBit, BitVec.testBit_toNat, BitVec.getLsbD_and, BitVec.getLsbD_not, BitVec.getLsbD_ofNat, BitVec.getLsbD_ofNat, bitOf_nat hx, bitOf_nat hy]
    simp [hk]
  none := rfl

theorem bits_minus_u64 (a b : Nat) (_ha : a < 18446744073709551616) (_hb : b < 18446744073709551616) :
    bits .andNot .u64 (a : Int) (b : Int) = ((BitVec.ofNat 64 a &&& ~~~ BitVec.ofNat 64 b).toNat : Int) := by
  show IntKind.u64.wrap ((BitVec.ofInt 64 (a : Int) &&& ~~~ BitVec.ofInt 64 (b : Int)).toNat : Int) = _
  rw [BitVec.ofInt_natCast, BitVec.ofInt_natCast, IntKind.wrap_u64]
  have := (BitVec.ofNat 64 a &&& ~~~ BitVec.ofNat 64 b).isLt
  have e : (2 : Nat) ^ 64 = 18446744073709551616 := by decide
  omega

theorem or_op (x y : Int) (w : World) (hx : U x) (hy : U y) :
    Calls Tryd.prog 28 #[.int .u64 x, .int .u64 y] w fun e w' => e = .returned (.int .u64 (orI x y)) ∧ w = w' := by
  have h : bits .or .u64 x y = orI x y := by
    have := bits_or_u64_nat x.toNat y.toNat (by have := u_nat hx; omega) (by have := u_nat hy; omega)
    rw [← (u_nat hx).2, ← (u_nat hy).2] at this
    exact this
  obtain ⟨hx1, hx2⟩ := hx
  obtain ⟨hy1, hy2⟩ := hy
  go_enter Tryd.func28, Tryd.ntmps28
  go_wp2
  go_ret
  exact ⟨rfl, rfl⟩
theorem and_op (x y : Int) (w : World) (hx : U x) (hy : U y) :
    Calls Tryd.prog 29 #[.int .u64 x, .int .u64 y] w fun e w' => e = .returned (.int .u64 (andI x y)) ∧ w = w' := by
  have h : bits .and .u64 x y = andI x y := by
    have := bits_and_u64_nat x.toNat y.toNat (by have := u_nat hx; omega) (by have := u_nat hy; omega)
    rw [← (u_nat hx).2, ← (u_nat hy).2] at this
    exact this
  obtain ⟨hx1, hx2⟩ := hx
  obtain ⟨hy1, hy2⟩ := hy
  go_enter Tryd.func29, Tryd.ntmps29
  go_wp2
  go_ret
  exact ⟨rfl, rfl⟩
theorem minus_op (x y : Int) (w : World) (hx : U x) (hy : U y) :
    Calls Tryd.prog 36 #[.int .u64 x, .int .u64 y] w fun e w' => e = .returned (.int .u64 (minusI x y)) ∧ w = w' := by
  have h : bits .andNot .u64 x y = minusI x y := by
    have := bits_minus_u64 x.toNat y.toNat (by have := u_nat hx; omega) (by have := u_nat hy; omega)
    rw [← (u_nat hx).2, ← (u_nat hy).2] at this
    exact this
  obtain ⟨hx1, hx2⟩ := hx
  obtain ⟨hy1, hy2⟩ := hy
  go_enter Tryd.func36, Tryd.ntmps36
  go_wp2
  go_ret
  exact ⟨rfl, rfl⟩
end Go.Proofs.YtecfjjpdlohmnaaDoor.BitOps
