/- Walks over fescueref07.marks, Word, operation, number; fescueref06.HasN. Walks over fescueref07.Word and operation. Parts of a line as they lie in memory, and the words that they tell. Which part an interface value of the writer's holds: type assertions with ok. -/
import Derived.Test.YtbebficgcemkoaaGreatDoorZLxKToWrP
import Derived.Test.YtbebficgcemkoaaGreatDoorZRwHToShTB
import Derived.Test.YtbebficgcemkoaaGreatDoorZIntOToAft
import Derived.BigGuardPart
import Derived.Test.YtbebficgcemkoaaGreatDoorZTyTPToTyRT
namespace Go.Proofs.YtbebficgcemkoaaGreatDoor.RdA
open Go.RowKit Go.Lib TyM TyP ShM ShP ShB IntO SetP LxM LxJ LxY RdM Aft

/-- the numbers of marks, or none -/
def MarksR (c : UInt8) (l : List ByteArray) (w : World) (e : Ending) (w' : World) : Prop :=
 ∃ u xs, e = .returned (.tuple #[u, .bool (marksO c l).isSome]) ∧ w'.ownsRow w.heap.size 3 1 u xs.length (intVals xs) ∧ (∀ r, marksO c l = some r → xs = r) ∧ (marksO c l = none → xs = []) ∧ Below w.heap.size w w'

set_option maxRecDepth 100000 in
set_option maxHeartbeats 4000000 in
theorem marks_calls (c : UInt8) (l : List ByteArray) (v : Value) (w : World) (hl : LxP.StrsAt w v l) (hn : l.length ≤ 100000) (hs : ∀ x ∈ l, x.size ≤ 9223372036854775807) :
  Calls Tryz.prog 148 #[v, .int .u8 (c.toNat : Int)] w (MarksR c l w) := by
 have HL := hid hl
 have HS := hid hs
 obtain ⟨ao, cap, rfl, hll⟩ := hl.slice
 clear hl hs
 go_enter Tryz.func148, Tryz.ntmps148
 go_wp2
 go_loopg [6, 7] l.length (fun gk u i wr => ∃ (k : Nat) (xs : List Int), k + gk = l.length ∧ i = .int .i64 k ∧ marksO c (l.take k) = some xs ∧ wr.ownsRow w.heap.size 3 1 u xs.length (intVals xs) ∧ Aft w wr)
 case atStart => exact ⟨0, [], by omega, rfl, rfl, World.ownsRow_nil _ _ _ _, Aft.refl _⟩
 case round =>
  obtain ⟨k, xs, hk, rfl, hm, hown, hr⟩ := hrel
  have HK := hid hk
  have HM := hid hm
  have hxl : xs.length = k := by
   have := marks_len hm
   rw [this, List.length_take]
   omega
  have HXL := hid hxl
  by_cases hlt : k < l.length
  rotate_left
  ·obtain rfl : k = l.length := by omega
   have hmm : marksO c l = some xs := by
    have := HM.out
    rwa [List.take_length] at this
   obtain ⟨a, n, rfl⟩ := own_slice hown
   have HR : Hid (MarksR c l w (.returned (.tuple #[.slice a xs.length n, .bool true])) wr) := ⟨_, xs, by rw [hmm]; rfl, hown, fun r h => by rw [hmm] at h; exact Option.some.inj h, (fun h => by rw [hmm] at h; cases h), hr.below⟩
   clear hm hown hk hmm hxl
   generalize l.length = len at *
   go_wp2
   go_ret2
   exact HR.out
  obtain ⟨b, off, rfl, hb, c0⟩ := HL.out.at k hlt
  have d0 := later c0
  have HC := hid (markR_calls l[k] (HS.out _ (List.getElem_mem hlt)) c wr)
  have HB : Hid ((mkN l[k] c).2 ≠ 0 → marksO c l = none) := fun h => marks_bad hlt h
  have HN : Hid ((mkN l[k] c).2 = 0 → marksO c (l.take (k + 1)) = some (xs ++ [(mkN l[k] c).1])) := fun h => by
   rw [List.take_succ_eq_append_getElem hlt]
   exact marks_snoc h HM.out
  have HO := hid hown
  obtain ⟨ua, un, rfl⟩ := own_slice hown
  clear hm hown hb c0 hk hxl
  have hlk : (k : Int) < l.length := by omega
  generalize l[k] = s at *
  unfold MkR at HC
  generalize (mkN s c).1 = q at *
  generalize (mkN s c).2 = eq at *
  go_wp2_with fail
  refine HC.out.mono ?_
  rintro e w1 ⟨rfl, hb1⟩
  have h1 := hr.go hb1
  have HB1 := hid hb1
  clear hb1 HC
  by_cases he : eq = 0
  rotate_left
  ·have hne : (eq != 0) = true := by simpa using he
   have hmn := HB.out he
   have HR : Hid (MarksR c l w (.returned (.tuple #[.slice none 0 0, .bool false])) w1) := ⟨_, [], by rw [hmn]; rfl, World.ownsRow_nil _ _ _ _, (fun r h => by rw [hmn] at h; cases h), (fun _ => rfl), h1.below⟩
   clear hmn HB HN he
   go_wp2
   go_ret2
   exact HR.out
  subst he
  have hmx := HN.out rfl
  have HNX := hid hmx
  have h2 := h1.alloc (.cells #[.int .i64 q] 3)
  have ho2 := (IntO.ownsRow_below HO.out HB1.out).alloc (.cells #[.int .i64 q] 3)
  have HO2 := hid ho2
  have HI := hid (ints_one (w := w1.alloc (.cells #[.int .i64 q] 3)) (b := w1.heap.size) (n := q) (cell_new _ _ _ _ rfl) (size_new _ _ _ rfl))
  have HH2 := hid h2
  have hsz : w.heap.size ≤ (w1.alloc (.cells #[.int .i64 q] 3)).heap.size := h2.size
  clear hmx h2 ho2 HO HB HN HB1
  go_wp2_with (at_builtin; refine wpList_append_ints rfl (.tmp 27) (.tmp 29) rfl w.heap.size (.slice ua xs.length un) rfl xs.length (intVals xs) HO2.out (by have := HXL.out; omega) (.slice (some ⟨w1.heap.size, 0, none⟩) 1 1) [q] rfl HI.out (by simp) hsz ?_)
  intro v' w' hown' hgr
  have h3 : Aft w w' := own_grown HH2.out.below HO2.out hgr hsz
  have HNO : Hid (w'.ownsRow w.heap.size 3 1 v' (xs ++ [q]).length (intVals (xs ++ [q]))) := by
   show World.ownsRow _ _ _ _ _ _ _
   rw [intVals_append, List.length_append]
   exact hown'
  obtain ⟨va, vn, rfl⟩ := own_slice hown'
  clear hown' hgr HI HO2 HH2 h1 hr d0
  go_wp2
  go_roundg (gk - 1)
  case measure => have := HK.out; omega
  case rel => exact ⟨k + 1, xs ++ [q], by have := HK.out; omega, by go_num, HNX.out, HNO.out, h3⟩

/-- an instruction's number -/
def NumIR (op : Int) (s : ByteArray) (w : World) (e : Ending) (w' : World) : Prop := e = .returned (.tuple #[.int .i64 (numP op s).1, .bool (numP op s).2]) ∧ Below w.heap.size w w'
set_option maxHeartbeats 1000000 in
theorem number_calls (op : Int) (s : ByteArray) (hs : s.size ≤ 9223372036854775807) (w : World) : Calls Tryz.prog 189 #[.int .u8 op, .string s] w (NumIR op s w) := by
 unfold NumIR numP
 by_cases h1 : op = 1
 ·rw [if_pos h1]
  subst h1
  have HC := hid (NumR.read_calls s hs w)
  have hd : decide ((NumP.rd (un s)).2 = 0) = ((NumP.rd (un s)).2 == 0) := by rw [Bool.eq_iff_iff]; simp
  rw [hd]
  clear hd
  unfold NumR.RdPost at HC
  unfold un at *
  generalize NumP.rd s.data.toList = r at *
  obtain ⟨m, e⟩ := r
  simp only at *
  go_enter Tryz.func189, Tryz.ntmps189
  go_wp2_with fail
  refine HC.out.mono ?_
  rintro e w1 ⟨rfl, hb⟩
  clear HC
  go_wp2
  go_ret2
  exact ⟨rfl, hb⟩
 rw [if_neg h1]
 have e1 : (op == 1) = false := by simpa using h1
 by_cases h14 : op = 14
 ·rw [if_pos h14]
  subst h14
  have HC := hid (NumH.ref_small_calls s hs 999 w)
  have hd : decide ((NumG.sm (un s) 999).2 = 0) = ((NumG.sm (un s) 999).2 == 0) := by rw [Bool.eq_iff_iff]; simp
  rw [hd]
  clear hd
  unfold NumG.SmPost at HC
  unfold un at *
  generalize NumG.sm s.data.toList 999 = r at *
  obtain ⟨m, e⟩ := r
  simp only at *
  go_enter Tryz.func189, Tryz.ntmps189
  go_wp2_with fail
  refine HC.out.mono ?_
  rintro e w1 ⟨rfl, hb⟩
  clear HC
  go_wp2
  go_ret2
  exact ⟨rfl, hb⟩
 rw [if_neg h14]
 have e14 : (op == 14) = false := by simpa using h14
 have HC := hid (markR_calls s hs 102 w)
 have hd : decide ((mkN s 102).2 = 0) = ((mkN s 102).2 == 0) := by rw [Bool.eq_iff_iff]; simp
 rw [hd]
 clear hd h1 h14
 unfold MkR at HC
 generalize mkN s 102 = r at *
 obtain ⟨m, e⟩ := r
 simp only at *
 go_enter Tryz.func189, Tryz.ntmps189
 go_wp2_with fail
 refine HC.out.mono ?_
 rintro e w1 ⟨rfl, hb⟩
 clear HC
 go_wp2
 go_ret2
 exact ⟨rfl, hb⟩
end Go.Proofs.YtbebficgcemkoaaGreatDoor.RdA
namespace Go.Proofs.YtbebficgcemkoaaGreatDoor.RdO
open Go.RowKit Go.Lib TyM TyP ShM ShP ShB IntO SetP LxM LxJ LxY RdM RdA Aft

def wdOf (k : Nat) : ByteArray := ⟨(wordsL.getD k []).toArray⟩
def WordR (k : Nat) (w : World) (e : Ending) (w' : World) : Prop := e = .returned (.string (wdOf k)) ∧ Below w.heap.size w w'
set_option maxRecDepth 100000 in
set_option maxHeartbeats 2000000 in
theorem word_calls (k : Nat) (hk : k < 23) (w : World) : Calls Tryz.prog 107 #[.int .u8 (k : Int)] w (WordR k w) := by
 have hk2 : (k : Int) < 23 := by omega
 have hc : ∀ j, j < 23 → (wordsL.map fun s => Value.string ⟨s.toArray⟩)[j]? = some (.string (wdOf j)) := fun j hj => by
  rw [List.getElem?_map]
  unfold wdOf
  rw [List.getD_eq_getElem?_getD]
  have : j < wordsL.length := hj
  rw [List.getElem?_eq_getElem this]; rfl
 have hcl : ([.string ⟨#[]⟩, .string ⟨#[105, 110, 116]⟩, .string ⟨#[110, 117, 108, 108]⟩, .string ⟨#[102, 110]⟩, .string ⟨#[97, 100, 100]⟩, .string ⟨#[115, 117, 98]⟩, .string ⟨#[109, 117, 108]⟩, .string ⟨#[100, 105, 118]⟩, .string ⟨#[108, 101, 115, 115]⟩, .string ⟨#[101, 113]⟩, .string ⟨#[115, 97, 109, 101]⟩, .string ⟨#[110, 101, 119]⟩, .string ⟨#[108, 111, 99, 97, 108]⟩, .string ⟨#[102, 114, 101, 101]⟩, .string ⟨#[102, 105, 101, 108, 100]⟩, .string ⟨#[101, 108, 101, 109]⟩, .string ⟨#[108, 111, 97, 100]⟩, .string ⟨#[115, 116, 111, 114, 101]⟩, .string ⟨#[99, 97, 108, 108]⟩, .string ⟨#[105, 99, 97, 108, 108]⟩, .string ⟨#[114, 101, 97, 100]⟩, .string ⟨#[112, 114, 105, 110, 116]⟩, .string ⟨#[112, 104, 105]⟩] : List Value)[k]? = some (.string (wdOf k)) := by
  have := hc k hk
  rw [← this]
  rfl
 have hb := Aft.alloc (Aft.refl w) (.cells #[.string ⟨#[]⟩, .string ⟨#[105, 110, 116]⟩, .string ⟨#[110, 117, 108, 108]⟩, .string ⟨#[102, 110]⟩, .string ⟨#[97, 100, 100]⟩, .string ⟨#[115, 117, 98]⟩, .string ⟨#[109, 117, 108]⟩, .string ⟨#[100, 105, 118]⟩, .string ⟨#[108, 101, 115, 115]⟩, .string ⟨#[101, 113]⟩, .string ⟨#[115, 97, 109, 101]⟩, .string ⟨#[110, 101, 119]⟩, .string ⟨#[108, 111, 99, 97, 108]⟩, .string ⟨#[102, 114, 101, 101]⟩, .string ⟨#[102, 105, 101, 108, 100]⟩, .string ⟨#[101, 108, 101, 109]⟩, .string ⟨#[108, 111, 97, 100]⟩, .string ⟨#[115, 116, 111, 114, 101]⟩, .string ⟨#[99, 97, 108, 108]⟩, .string ⟨#[105, 99, 97, 108, 108]⟩, .string ⟨#[114, 101, 97, 100]⟩, .string ⟨#[112, 114, 105, 110, 116]⟩, .string ⟨#[112, 104, 105]⟩] 9)
 clear hc hk
 unfold WordR
 generalize wdOf k = s at *
 go_enter Tryz.func107, Tryz.ntmps107
 go_wp2
 go_ret
 exact ⟨rfl, hb.below⟩

end Go.Proofs.YtbebficgcemkoaaGreatDoor.RdO
namespace Go.Proofs.YtbebficgcemkoaaGreatDoor.WkM
open Go.RowKit Go.Lib IntO SetP TyM ShM LxM LxP LxJ RwO NumP WrM

/-- a part of a line: a word, a number, a mark, or marks (with their list's value) -/
inductive Pt where
 | word (s : ByteArray)
 | num (n : Int)
 | mark (c : UInt8) (n : Int)
 | marks (c : UInt8) (l : List Int) (u : Value)
def Pt.val : Pt → Value
 | .word s => .iface 80 (.string s)
 | .num n => .iface 139 (.int .i64 n)
 | .mark c n => .iface 82 (.agg #[.string (mk [c]), .int .i64 n])
 | .marks c _ u => .iface 138 (.agg #[.string (mk [c]), u])
def Pt.words : Pt → List ByteArray
 | .word s => [s]
 | .num n => [nmw n]
 | .mark c n => [mkw c n]
 | .marks c l _ => l.map (mkw c)
/-- what is asked of a part: numbers of 64 bits, a list that lies in memory -/
def Pt.At (w : World) : Pt → Prop
 | .word _ => True
 | .num n => I64 n
 | .mark _ n => I64 n
 | .marks _ l u => IntsAt w u l ∧ l.length ≤ 1000 ∧ ∀ n ∈ l, I64 n
theorem Pt.At.below {w w' : World} {p : Pt} (h : p.At w) (hb : Below w.heap.size w w') : p.At w' := by
 cases p with
 | marks c l u => exact ⟨h.1.below hb, h.2⟩
 | _ => exact h
def wordsAll (l : List Pt) : List ByteArray := l.flatMap Pt.words
theorem wordsAll_append (a b : List Pt) : wordsAll (a ++ b) = wordsAll a ++ wordsAll b := by simp [wordsAll]
theorem wordsAll_one (p : Pt) : wordsAll [p] = p.words := by simp [wordsAll]
theorem wordsAll_cons (p : Pt) (l : List Pt) : wordsAll (p :: l) = p.words ++ wordsAll l := rfl
def vals (l : List Pt) : List Value := l.map Pt.val
/-- parts in memory -/
def PartsAt (w : World) (v : Value) (l : List Pt) : Prop := ListAt w v (vals l) ∧ ∀ p ∈ l, p.At w
theorem PartsAt.below {w w' : World} {v : Value} {l : List Pt} (h : PartsAt w v l) (hb : Below w.heap.size w w') : PartsAt w' v l := ⟨h.1.below hb, fun p hp => (h.2 p hp).below hb⟩
theorem PartsAt.slice {w : World} {v : Value} {l : List Pt} (h : PartsAt w v l) : ∃ ao cap, v = .slice ao l.length cap ∧ l.length ≤ 9223372036854775807 := by
 have := ListAt.slice h.1
 simpa [vals] using this
theorem PartsAt.at {w : World} {ao : Option Addr} {n cap : Nat} {l : List Pt} (h : PartsAt w (.slice ao n cap) l) (k : Nat) (hk : k < l.length) : ∃ b off, ao = some ⟨b, off, none⟩ ∧ b < w.heap.size ∧ w.cell? ⟨b, off + k, none⟩ = some l[k].val ∧ l[k].At w := by
 have h1 := ListAt.at h.1 k (by simpa [vals] using hk)
 obtain ⟨b, off, h2, h3, h4⟩ := h1
 exact ⟨b, off, h2, h3, by simpa [vals] using h4, h.2 _ (List.getElem_mem hk)⟩
/-- parts written out, in a new block -/
theorem parts_lit {w : World} {l : List Pt} {cs : List Value} {n : Nat} (hl : l.length = n) (hn : n ≤ 100) (h : vals l = cs) (ha : ∀ p ∈ l, p.At w) (ty : TypeId) : PartsAt (w.alloc (.cells cs.toArray ty)) (.slice (some ⟨w.heap.size, 0, none⟩) n n) l :=
 ⟨by rw [h]; exact list_of_owns (LxP.ownsRow_lit w cs ty n (by rw [← h]; simpa [vals] using hl) (by unfold maxLen; omega)) (by rw [← h]; simp [vals]; omega), fun p hp => (ha p hp).below (LxP.alloc_below _ _)⟩

/-- words that a call answers, in a row of its own -/
def LineR (ws : List ByteArray) (w : World) (e : Ending) (w' : World) : Prop := ∃ u, e = .returned u ∧ w'.ownsRow w.heap.size 9 1 u ws.length (strs ws) ∧ Below w.heap.size w w'
theorem mk_cat (a b : List UInt8) : mk a ++ mk b = mk (a ++ b) := by
 apply ByteArray.ext
 simp [mk]
/-- words that grow in a box -/
structure PutS (w0 : World) (b : Nat) (u : Value) (ws : List ByteArray) (w : World) : Prop where
 box : w.heap[b]? = some (.cells #[u] 74 (0, 0))
 own : w.ownsRow w0.heap.size 9 1 u ws.length (strs ws)
 be : Below w0.heap.size w0 w
 lo : w0.heap.size ≤ b
theorem PutS.on {w0 : World} {b : Nat} {u : Value} {ws : List ByteArray} {w w' : World} (h : PutS w0 b u ws w) (hb : Below w.heap.size w w') : PutS w0 b u ws w' :=
 ⟨(hb.block _ (Array.getElem?_eq_some_iff.1 h.box).1).trans h.box, LxP.ownsRow_below h.own hb, h.be.trans (hb.mono h.be.size), h.lo⟩
theorem PutS.start (w : World) : PutS w w.heap.size (.slice none 0 0) [] (w.alloc (.cells #[.slice none 0 0] 74)) :=
 ⟨heap_alloc_new _ _, World.ownsRow_nil _ _ _ _, LxP.alloc_below _ _, Nat.le_refl _⟩
/-- the parts that a function holds stay -/
def KeepM (w w' : World) : Prop := ∀ (j : Nat) (cs : Array Value) (fr : Nat × Nat), w.heap[j]? = some (.cells cs 138 fr) → w'.heap[j]? = some (.cells cs 138 fr)
theorem KeepM.trans {a b c : World} (h : KeepM a b) (k : KeepM b c) : KeepM a c := fun j cs fr e => k j cs fr (h j cs fr e)
theorem KeepM.below {w w' : World} (hb : Below w.heap.size w w') : KeepM w w' := fun j _ _ e => (hb.block j (Array.getElem?_eq_some_iff.1 e).1).trans e
theorem PutS.keep {w0 : World} {b : Nat} {u v' : Value} {ws : List ByteArray} {w w' : World} (h : PutS w0 b u ws w) (hg : w.grownBy w' u.ownBlock) : KeepM w (w'.setCell ⟨b, 0, none⟩ v') := by
 intro j cs fr e
 have hjb : j ≠ b := fun ej => by
  subst ej
  rw [h.box] at e
  simp at e
 have hne : u.ownBlock ≠ some j := fun e1 => by
  obtain ⟨cs2, fr2, h3⟩ := own_typed h.own _ e1
  rw [e] at h3
  simp at h3
 exact ((ShTB.grown_set w' b 0 v').block j (by have := (Array.getElem?_eq_some_iff.1 e).1; have := hg.size; omega) (fun ee => hjb (Option.some.inj ee))).trans ((hg.block j (Array.getElem?_eq_some_iff.1 e).1 (fun e => hne e.symm)).trans e)
theorem PutS.grow {w0 : World} {b : Nat} {u v' : Value} {ws ns : List ByteArray} {w w' : World} {n : Nat} (h : PutS w0 b u ws w) (ho : w'.ownsRow w0.heap.size 9 1 v' n (strs ws ++ strs ns)) (hn : n = ws.length + ns.length) (hg : w.grownBy w' u.ownBlock) :
  w'.heap[b]? = some (.cells #[u] 74 (0, 0)) ∧ PutS w0 b v' (ws ++ ns) (w'.setCell ⟨b, 0, none⟩ v') := by
 subst hn
 have hlo := h.own.lt
 have hne : u.ownBlock ≠ some b := fun e => by
  obtain ⟨cs, fr, h3⟩ := own_typed h.own _ e
  rw [h.box] at h3
  simp at h3
 have hb : w'.heap[b]? = _ := (hg.block _ (Array.getElem?_eq_some_iff.1 h.box).1 (fun e => hne e.symm)).trans h.box
 refine ⟨hb, (ShTB.set_heap' (i := 0) v' hb).trans (by simp), ?_, ?_, h.lo⟩
 ·have := owns_other ho (ShTB.grown_set w' b 0 v') (ShTB.typed_at hb) (by decide)
  rw [List.length_append]
  simpa [strs] using this
 ·exact (h.be.grown hg h.be.size (fun k hk => (hlo k hk).1)).setCell (p := ⟨b, 0, none⟩) h.lo v'
end Go.Proofs.YtbebficgcemkoaaGreatDoor.WkM
namespace Go.Proofs.YtbebficgcemkoaaGreatDoor.WkA
open Go.RowKit Go.Lib WkM

theorem isW (v : Value) (w : World) : (Instr.typeAssert (.iface 80 v) 144 80 true).run Tryz.prog w = .ok (.tuple #[v, .bool true]) w := by
 simp [Instr.typeAssert, run_underlying Tryz.underlying80]
theorem isN (v : Value) (w : World) : (Instr.typeAssert (.iface 139 v) 144 139 true).run Tryz.prog w = .ok (.tuple #[v, .bool true]) w := by
 simp [Instr.typeAssert, run_underlying Tryz.underlying139]
theorem isM (v : Value) (w : World) : (Instr.typeAssert (.iface 82 v) 144 82 true).run Tryz.prog w = .ok (.tuple #[v, .bool true]) w := by
 simp [Instr.typeAssert, run_underlying Tryz.underlying82]
theorem isL (v : Value) (w : World) : (Instr.typeAssert (.iface 138 v) 144 138 true).run Tryz.prog w = .ok (.tuple #[v, .bool true]) w := by
 simp [Instr.typeAssert, run_underlying Tryz.underlying138]
theorem noW {t : TypeId} (ht : ¬ t = 80) (v : Value) (w : World) : (Instr.typeAssert (.iface t v) 144 80 true).run Tryz.prog w = .ok (.tuple #[.string ⟨#[]⟩, .bool false]) w := by
 have hz : (zeroValue 80).run Tryz.prog w = .ok (.string ⟨#[]⟩) w := by kernel_rfl
 simp [Instr.typeAssert, run_underlying Tryz.underlying80, ht, hz]
theorem noN {t : TypeId} (ht : ¬ t = 139) (v : Value) (w : World) : (Instr.typeAssert (.iface t v) 144 139 true).run Tryz.prog w = .ok (.tuple #[.int .i64 0, .bool false]) w := by
 have hz : (zeroValue 139).run Tryz.prog w = .ok (.int .i64 0) w := by kernel_rfl
 simp [Instr.typeAssert, run_underlying Tryz.underlying139, ht, hz]
theorem noM {t : TypeId} (ht : ¬ t = 82) (v : Value) (w : World) : (Instr.typeAssert (.iface t v) 144 82 true).run Tryz.prog w = .ok (.tuple #[.agg #[.string ⟨#[]⟩, .int .i64 0], .bool false]) w := by
 have hz : (zeroValue 82).run Tryz.prog w = .ok (.agg #[.string ⟨#[]⟩, .int .i64 0]) w := by kernel_rfl
 simp [Instr.typeAssert, run_underlying Tryz.underlying82, ht, hz]
end Go.Proofs.YtbebficgcemkoaaGreatDoor.WkA
