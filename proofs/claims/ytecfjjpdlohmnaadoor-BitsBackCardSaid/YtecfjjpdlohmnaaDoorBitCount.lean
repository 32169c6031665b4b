/- Plain facts: a set's numbers rise; how many numbers there are; how sets go together. -/
import Derived.Test.YtecfjjpdlohmnaaDoorSetGQ
namespace Go.Proofs.YtecfjjpdlohmnaaDoor.BitCount
open SetP SetO SetNum SetIn SetWith SetT SetW2 SetF SetG

theorem rise_bits (a : Int) (y : Nat) : ∀ K, (bitNums a y K).Pairwise (· < ·)
  | 0 => by simp [bitNums]
  | K + 1 => by
    rw [bitNums_succ, List.pairwise_append]
    refine ⟨rise_bits a y K, by split <;> simp, fun n hn m hm => ?_⟩
    obtain ⟨k, hk, _, rfl⟩ := mem_bitNums.1 hn
    split at hm
    · rw [List.mem_singleton.1 hm]; omega
    · cases hm
theorem rise_numbers : ∀ {s : List Wd}, MayW s → (numbers s).Pairwise (· < ·)
  | [], _ => by simp [numbers]
  | x :: s, h => by
    have e : numbers (x :: s) = bitNums x.1 x.2.toNat 64 ++ numbers s := by simp [numbers]
    rw [e, List.pairwise_append]
    refine ⟨rise_bits _ _ _, rise_numbers h.tail, fun n hn m hm => ?_⟩
    obtain ⟨k, hk, _, rfl⟩ := mem_bitNums.1 hn
    unfold numbers at hm
    obtain ⟨y, hy, hm⟩ := List.mem_flatMap.1 hm
    obtain ⟨j, _, _, rfl⟩ := mem_bitNums.1 hm
    have := h.head y hy
    omega
theorem sorted_ext : ∀ {l r : List Int}, l.Pairwise (· < ·) → r.Pairwise (· < ·) → (∀ x, x ∈ l ↔ x ∈ r) → l = r
  | [], [], _, _, _ => rfl
  | [], y :: r, _, _, h => by have := (h y).2 (by simp); cases this
  | x :: l, [], _, _, h => by have := (h x).1 (by simp); cases this
  | x :: l, y :: r, hl, hr, h => by
    have hx := (List.pairwise_cons.1 hl).1
    have hy := (List.pairwise_cons.1 hr).1
    have e : x = y := by
      rcases List.mem_cons.1 ((h x).1 (by simp)) with e | hm
      · exact e
      · rcases List.mem_cons.1 ((h y).2 (by simp)) with e | hm2
        · exact e.symm
        · have := hy x hm; have := hx y hm2; omega
    subst e
    rw [sorted_ext (List.pairwise_cons.1 hl).2 (List.pairwise_cons.1 hr).2 (fun z => ?_)]
    constructor
    · intro hz
      rcases List.mem_cons.1 ((h z).1 (by simp [hz])) with e | hm
      · have := hx z hz; omega
      · exact hm
    · intro hz
      rcases List.mem_cons.1 ((h z).2 (by simp [hz])) with e | hm
      · have := hy z hz; omega
      · exact hm

/-- the numbers from 0 to below K -/
def upTo (K : Nat) : List Int := (List.range K).map fun (n : Nat) => (n : Int)
theorem mem_upTo {K : Nat} {n : Int} : n ∈ upTo K ↔ 0 ≤ n ∧ n < K := by
  unfold upTo
  rw [List.mem_map]
  constructor
  · rintro ⟨k, hk, rfl⟩
    have := List.mem_range.1 hk
    omega
  · intro h
    exact ⟨n.toNat, List.mem_range.2 (by omega), by omega⟩
theorem rise_upTo : ∀ K, (upTo K).Pairwise (· < ·)
  | 0 => by simp [upTo]
  | K + 1 => by
    have e : upTo (K + 1) = upTo K ++ [(K : Int)] := by unfold upTo; rw [List.range_succ, List.map_append]; rfl
    rw [e, List.pairwise_append]
    refine ⟨rise_upTo K, by simp, fun n hn m hm => ?_⟩
    rw [List.mem_singleton.1 hm]
    have := mem_upTo.1 hn
    omega
theorem numbers_filter {K : Nat} (hK : K = 1048576) {s : List Wd} (h : MayW s) : numbers s = (upTo K).filter (inS s) := by
  refine sorted_ext (rise_numbers h) ((rise_upTo K).filter _) fun n => ?_
  rw [mem_numbers h, List.mem_filter, mem_upTo]
  constructor
  · rintro ⟨a, b, c⟩; exact ⟨⟨a, by omega⟩, c⟩
  · rintro ⟨⟨a, b⟩, c⟩; exact ⟨a, by omega, c⟩
theorem count_both (p q : Int → Bool) : ∀ l : List Int, (l.filter fun n => p n || q n).length + (l.filter fun n => p n && q n).length = (l.filter p).length + (l.filter q).length
  | [] => rfl
  | x :: l => by
    have ih := count_both p q l
    simp only [List.filter_cons]
    cases p x <;> cases q x <;> simp <;> omega
theorem sizes {a b : List Wd} (ha : MayW a) (hb : MayW b) : (numbers (unionS a b)).length + (numbers (meetS a b)).length = (numbers a).length + (numbers b).length := by
  obtain ⟨K, hK⟩ : ∃ K : Nat, K = 1048576 := ⟨_, rfl⟩
  rw [numbers_filter hK ha, numbers_filter hK hb, numbers_filter hK (union_may ha hb), numbers_filter hK (meet_may ha)]
  rw [← count_both (inS a) (inS b)]
  congr 2
  · refine List.filter_congr fun n hn => ?_
    have := mem_upTo.1 hn
    exact inS_union ha hb (by omega) (by omega)
  · refine List.filter_congr fun n hn => ?_
    have := mem_upTo.1 hn
    exact inS_meet ha (by omega) (by omega)

theorem union_comm {a b : List Wd} (ha : MayW a) (hb : MayW b) : unionS a b = unionS b a :=
  ext (union_may ha hb) (union_may hb ha) fun n h0 h1 => by rw [inS_union ha hb h0 h1, inS_union hb ha h0 h1, Bool.or_comm]
theorem union_assoc {a b c : List Wd} (ha : MayW a) (hb : MayW b) (hc : MayW c) : unionS (unionS a b) c = unionS a (unionS b c) :=
  ext (union_may (union_may ha hb) hc) (union_may ha (union_may hb hc)) fun n h0 h1 => by
    rw [inS_union (union_may ha hb) hc h0 h1, inS_union ha hb h0 h1, inS_union ha (union_may hb hc) h0 h1, inS_union hb hc h0 h1, Bool.or_assoc]
theorem meet_union {a b c : List Wd} (ha : MayW a) (hb : MayW b) (hc : MayW c) : meetS a (unionS b c) = unionS (meetS a b) (meetS a c) :=
  ext (meet_may ha) (union_may (meet_may ha) (meet_may ha)) fun n h0 h1 => by
    rw [inS_meet ha h0 h1, inS_union hb hc h0 h1, inS_union (meet_may ha) (meet_may ha) h0 h1, inS_meet ha h0 h1, inS_meet ha h0 h1, Bool.and_or_distrib_left]
theorem minus_meet {a b : List Wd} (ha : MayW a) : minusS a b = minusS a (meetS a b) :=
  ext (minus_may ha) (minus_may ha) fun n h0 h1 => by
    rw [inS_minus ha h0 h1, inS_minus ha h0 h1, inS_meet ha h0 h1]
    cases inS a n <;> cases inS b n <;> rfl
theorem whole {a b : List Wd} (ha : MayW a) : unionS (minusS a b) (meetS a b) = a :=
  ext (union_may (minus_may ha) (meet_may ha)) ha fun n h0 h1 => by
    rw [inS_union (minus_may ha) (meet_may ha) h0 h1, inS_minus ha h0 h1, inS_meet ha h0 h1]
    cases inS a n <;> cases inS b n <;> rfl
end Go.Proofs.YtecfjjpdlohmnaaDoor.BitCount
