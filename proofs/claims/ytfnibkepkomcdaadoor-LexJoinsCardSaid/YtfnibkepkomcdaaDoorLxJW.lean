/- Walk over fescuelaw05.LexJoins. -/
import Derived.Test.YtfnibkepkomcdaaDoorLxKW
import Derived.Test.YtfnibkepkomcdaaDoorLxV
namespace Go.Proofs.YtfnibkepkomcdaaDoor.LxJW
open Go.RowKit Go.Lib LxM LxP LxK LxJ LxS LxY LxO LxN LxT LxLA LxG LxKW

/-- the lines copied so far -/
def CpI (w : World) (l : List (List ByteArray)) (i : Nat) (u : Value) (r : List Rw) (wr : World) : Prop := r.map Prod.fst = l.take i ∧ OwnL w.heap.size u r wr ∧ Below w.heap.size w wr
theorem CpI.len {w wr : World} {l : List (List ByteArray)} {i : Nat} {u : Value} {r : List Rw} (h : CpI w l i u r wr) : r.length ≤ l.length := by
  have : r.length = (l.take i).length := by
    have := congrArg List.length h.1
    simpa using this
  rw [List.length_take] at this
  omega
theorem CpI.next {w wr w1 w2 : World} {l : List (List ByteArray)} {i : Nat} {u u2 v : Value} {r : List Rw} {x : List ByteArray} (h : CpI w l i u r wr) (hi : i < l.length) (hx : l[i] = x) (hb : Below wr.heap.size wr w1)
    (hv : w1.ownsRow wr.heap.size 9 1 v x.length (strs x)) (hg : w1.grownBy w2 u.ownBlock) (ho : w2.ownsRow w.heap.size 29 1 u2 (r.length + 1) (r.map Prod.snd ++ [v])) : CpI w l (i + 1) u2 (r ++ [(x, v)]) w2 := by
  have hO := OwnL.below h.2.1 hb
  have hbw := h.2.2.trans (hb.mono h.2.2.size)
  refine ⟨?_, OwnL.snoc hO (owns_base hv h.2.2.size) hg ho, own_grown hbw hO.1 hg hbw.size⟩
  rw [List.map_append, h.1, List.take_succ_eq_append_getElem hi, hx]
  rfl
theorem CpI.lines {w wr : World} {l : List (List ByteArray)} {u : Value} {r : List Rw} (h : CpI w l l.length u r wr) (hf : Fits l) : LinesAt wr u l := by
  have h1 := h.1
  rw [List.take_length] at h1
  rw [← h1]
  refine OwnL.lines h.2.1 (by have := h.len; have := hf.lines; omega) fun x hx => ?_
  have : x.1 ∈ l := by rw [← h1]; exact List.mem_map_of_mem hx
  have := hf.words _ this
  omega

set_option maxRecDepth 100000 in
set_option maxHeartbeats 4000000 in
theorem walk (W : World) (v : Value) (l : List (List ByteArray)) (S : LinesAt W v l) (_ : ∀ x ∈ l, ∀ y ∈ x, y.size ≤ maxLen) (ht : Tab W) :
    Calls Tryd.prog 5 #[v] W fun e W' => e = .returned (.bool true) ∧ Below W.heap.size W W' := by
  have HGR := hid (great_calls v l 20000 (by omega) W S)
  have HS := hid S
  have HJR := hid (fun (hf : Fits l) wx (hb : Below W.heap.size W wx) => LxV.joinR_calls v l wx (S.below hb) hf)
  have HT := hid ht
  obtain ⟨ao, ac, rfl, hla⟩ := S.slice
  clear S ht
  go_enter Tryd.func5, Tryd.ntmps5
  go_wp2_with fail
  refine HGR.out.mono ?_
  rintro e w1 ⟨g, rfl, hsm, hb1⟩
  clear HGR
  cases g with
  | true =>
    clear hsm HJR HT HS
    go_wp2
    go_ret
    exact ⟨rfl, hb1⟩
  | false =>
    have hll := (hsm rfl).1
    have HF := hid (small_fits (hsm rfl) (by omega))
    have HB1 := hid hb1
    have HC0 : Hid (CpI w1 l 0 (.slice none 0 0) [] w1) := ⟨rfl, OwnL.nil _ _, Below.refl _ _⟩
    clear hsm
    go_wp2
    go_loopg [3, 4] l.length (fun gk u iv wr => ∃ (i : Nat) (r : List Rw), i + gk = l.length ∧ iv = .int .i64 i ∧ Hid (CpI w1 l i u r wr))
    case atStart => exact ⟨0, [], by omega, rfl, HC0⟩
    case round =>
      obtain ⟨i, r, hi, rfl, HI⟩ := hrel
      have HK := hid hi
      have hbx := HI.out.2.2
      have hbw := HB1.out.trans (hbx.mono HB1.out.size)
      by_cases hlt : i < l.length
      · obtain ⟨b, o, pv, rfl, hb0, hc, hp⟩ := (HS.out.below hbw).at i hlt
        have hrl := HI.out.len
        have HNX := hid (fun (w3 w4 : World) (u2 v2 : Value) (x : List ByteArray) hx => HI.out.next (w1 := w3) (w2 := w4) (u2 := u2) (v := v2) (x := x) hlt hx)
        have HOL := hid HI.out.2.1
        have hxw := HF.out.words _ (List.getElem_mem hlt)
        generalize l[i] = x at *
        have hO0 : Hid ((wr.alloc (.cells #[] 9)).ownsRow wr.heap.size 9 1 (.slice (some ⟨wr.heap.size, 0, none⟩) 0 0) 0 []) := ownsRow_lit wr [] 9 0 rfl (by decide)
        have hba : Below wr.heap.size wr (wr.alloc (.cells #[] 9)) := alloc_below _ _
        have HBA := hid hba
        have HP : Hid (ListAt (wr.alloc (.cells #[] 9)) pv (strs x)) := hp.below hba
        have HP1 := hid (strs_one x)
        have hc2 : (wr.alloc (.cells #[] 9)).cell? ⟨b, o + i, none⟩ = some pv := (hba.cell (p := ⟨b, _, none⟩) hb0).trans hc
        have hsz := hba.size
        obtain ⟨pa, pc, rfl, hpl⟩ := hp.slice
        have hsl : (strs x).length = x.length := by simp
        clear hi hp hba hc
        generalize hxs : strs x = xs at *
        have HXS := hid hxs
        clear hxs
        go_wp2_with (at_builtin; refine wpList_append_list rfl (.tmp 18) (.tmp 22) elemS rfl wr.heap.size (.slice (some ⟨wr.heap.size, 0, none⟩) 0 0) rfl 0 [] hO0.out (by omega) (.slice pa x.length pc) xs rfl HP.out HP1.out (by omega) hsz ?_)
        intro v1 w3 hown1 hgr1
        have hb3 := hid (own_grown HBA.out hO0.out hgr1 hsz)
        obtain ⟨va, vc, rfl⟩ := own_slice hown1
        have HV : Hid ((w3.alloc (.cells #[.slice va x.length vc] 29)).ownsRow wr.heap.size 9 1 (.slice va x.length vc) x.length xs) := hown1.alloc _
        have hbw3 := hbx.trans (hb3.out.mono hbx.size)
        have hO1 : Hid ((w3.alloc (.cells #[.slice va x.length vc] 29)).ownsRow w1.heap.size 29 1 u3 r.length (r.map Prod.snd)) := (ownsRow_below HOL.out.1 hb3.out).alloc _
        have HN := hid (fun w4 u2 => HNX.out (w3.alloc (.cells #[.slice va x.length vc] 29)) w4 u2 (.slice va x.length vc) x rfl (hb3.out.alloc hb3.out.size _) (by rw [HXS.out]; exact HV.out))
        clear hown1 hgr1 HNX hO0 HBA HP HP1 hc2 HV
        generalize x.length = n at *
        have HCE : Hid ((w3.alloc (.cells #[.slice va n vc] 29)).cell? ⟨w3.heap.size, 0, none⟩ = some (.slice va n vc)) := by show _ = _; simp
        have hltw : w3.heap.size < (w3.alloc (.cells #[.slice va n vc] 29)).heap.size := by simp
        have hsz3 := (hbw3.alloc hbw3.size (.cells #[.slice va n vc] 29)).size
        go_wp2_with (at_builtin; refine wpList_append_one rfl (.tmp 17) (.tmp 24) elemL rfl w1.heap.size u3 rfl r.length (r.map Prod.snd) hO1.out (by omega) w3.heap.size (.slice va n vc) rfl HCE.out hltw rfl hsz3 ?_)
        intro u2 w4 hown4 hgr4
        have HQ := hid (HN.out w4 u2 hgr4 hown4)
        clear hown4 hgr4 hO1 HCE HN hb3 hbw3 hsz3
        go_wp2
        go_roundg (gk - 1)
        case measure => have := HK.out; omega
        case rel => exact ⟨i + 1, _, by have := HK.out; omega, by go_num, HQ⟩
      · obtain rfl : i = l.length := by omega
        have hown := HI.out.lines HF.out
        have HOW := hid hown
        have HJ1 := hid (joinC_calls _ l wr hown HF.out (HT.out.on hbw))
        unfold JnR at HJ1
        have HJ2 := hid (fun wx (hb : Below wr.heap.size wr wx) => HJR.out HF.out wx (hbw.trans (hb.mono hbw.size)))
        unfold JnR at HJ2
        have HSM := hid (fun wx (hb : Below wr.heap.size wr wx) => same_calls _ _ l l wx (HOW.out.below hb) (HS.out.below (hbw.trans (hb.mono hbw.size))))
        rw [decide_eq_true (show l = l from rfl)] at HSM
        obtain ⟨ua, uc, rfl, _⟩ := hown.slice
        generalize mk (jnT (unL l)) = y at *
        generalize jnE (unL l) = er at *
        have e1 : (y.toList == y.toList) = true := by simp
        have e2 : (er == er) = true := by simp
        clear hi hown HI HJR HC0
        go_wp2_with fail
        refine HJ1.out.mono ?_
        rintro e w3 ⟨rfl, hb3⟩
        have HJ3 := hid (HJ2.out w3 hb3)
        go_wp2_with fail
        refine HJ3.out.mono ?_
        rintro e w4 ⟨rfl, hb4⟩
        have hb34 := hb3.trans (hb4.mono hb3.size)
        have HS4 := hid (HSM.out w4 hb34)
        clear hb3 hb4 HJ1 HJ2 HJ3 HSM
        go_wp2_with fail
        refine HS4.out.mono ?_
        rintro e w5 ⟨rfl, hb5⟩
        have hbf := hbw.trans ((hb34.trans (hb5.mono hb34.size)).mono hbw.size)
        clear hb34 hb5 HS4
        go_wp2
        go_ret
        exact ⟨rfl, hbf⟩
end Go.Proofs.YtfnibkepkomcdaaDoor.LxJW
