/- Walk over lex.Lines: three labels, and gotos between them. -/
import Derived.Test.YtfnibkepkomcdaaDoorLxJ
namespace Go.Proofs.YtfnibkepkomcdaaDoor.LxL
open Go.RowKit Go.Lib LxM LxP LxK LxJ

/-- the frame at a jump -/
def Fr (s : ByteArray) (lv wv : Value) (k f : Nat) (a : Act) : Prop :=
  ∃ (u8 u9 u10 u11 u12 u13 u14 u15 u16 u17 u18 u19 u20 u21 u22 u23 u24 u25 u26 u27 u28 u29 u30 u31 u32 u33 u34 u35 u36 u37 u38 u39 u40 u41 u42 u43 u44 u45 u46 u47 u48 u49 u50 u51 u52 u53 u54 u55 u56 u57 u58 u59 : Value), a = { tmps := #[.string s, undef, .slice none 0 0, .int .i64 0, lv, wv, .int .i64 (k : Int), .int .i64 (f : Int), u8, u9, u10, u11, u12, u13, u14, u15, u16, u17, u18, u19, u20, u21, u22, u23, u24, u25, u26, u27, u28, u29, u30, u31, u32, u33, u34, u35, u36, u37, u38, u39, u40, u41, u42, u43, u44, u45, u46, u47, u48, u49, u50, u51, u52, u53, u54, u55, u56, u57, u58, u59], defers := [] }
def J (s : ByteArray) (w : World) : Nat → Act → World → Prop
  | 0, a, wr => ∃ lv wv k f, Fr s lv wv k f a ∧ H0 s w lv wv k wr
  | 1, a, wr => ∃ lv wv k f, Fr s lv wv k f a ∧ H1 s w lv wv k wr
  | 2, a, wr => ∃ lv wv k f, Fr s lv wv k f a ∧ H2 s w lv wv k f wr
  | _, _, _ => False
def placeOf (a : Act) : Nat := (RowKit.intOf (a.tmps.getD 6 undef)).toNat
def rank (l kd : Nat) : Nat := if l = 0 then 1 else if l = 2 then 2 else if kd = 2 then 2 else 0
def mu (s : ByteArray) (l : Nat) (a : Act) (_ : World) : Nat := 3 * (s.size + 1 - placeOf a) + rank l (kindS s (placeOf a))
theorem Fr.mu {s : ByteArray} {lv wv : Value} {k f : Nat} {a : Act} (h : Fr s lv wv k f a) (l : Nat) (w : World) : mu s l a w = 3 * (s.size + 1 - k) + rank l (kindS s k) := by
  have : placeOf a = k := by
    obtain ⟨u8, u9, u10, u11, u12, u13, u14, u15, u16, u17, u18, u19, u20, u21, u22, u23, u24, u25, u26, u27, u28, u29, u30, u31, u32, u33, u34, u35, u36, u37, u38, u39, u40, u41, u42, u43, u44, u45, u46, u47, u48, u49, u50, u51, u52, u53, u54, u55, u56, u57, u58, u59, rfl⟩ := h
    rfl
  unfold LxL.mu
  rw [this]
theorem jump0 {s : ByteArray} {w : World} {lv wv : Value} {k f M : Nat} {a : Act} {wr : World} (F : Fr s lv wv k f a) (H : H0 s w lv wv k wr) (hm : 3 * (s.size + 1 - k) + 1 < M) : J s w 0 a wr ∧ mu s 0 a wr < M :=
  ⟨⟨lv, wv, k, f, F, H⟩, by rw [F.mu]; exact hm⟩
theorem jump1 {s : ByteArray} {w : World} {lv wv : Value} {k f M : Nat} {a : Act} {wr : World} (F : Fr s lv wv k f a) (H : H1 s w lv wv k wr) (hm : 3 * (s.size + 1 - k) + rank 1 (kindS s k) < M) : J s w 1 a wr ∧ mu s 1 a wr < M :=
  ⟨⟨lv, wv, k, f, F, H⟩, by rw [F.mu]; exact hm⟩
theorem jump2 {s : ByteArray} {w : World} {lv wv : Value} {k f M : Nat} {a : Act} {wr : World} (F : Fr s lv wv k f a) (H : H2 s w lv wv k f wr) (hm : 3 * (s.size + 1 - k) + 2 < M) : J s w 2 a wr ∧ mu s 2 a wr < M :=
  ⟨⟨lv, wv, k, f, F, H⟩, by rw [F.mu]; exact hm⟩
theorem rank1_le (kd : Nat) : rank 1 kd ≤ 2 := by unfold rank; rw [if_neg (by decide), if_neg (by decide)]; split <;> omega
theorem rank0 (kd : Nat) : rank 0 kd = 1 := rfl
theorem rank2 (kd : Nat) : rank 2 kd = 2 := rfl
theorem rank1_feed : rank 1 2 = 2 := rfl
theorem rank1_hash : rank 1 3 = 0 := rfl
theorem kind_at (s : ByteArray) (k : Nat) (hk : k ≤ s.size) (w : World) (ht : Tab w) (kd : Int) (h : (kindS s k : Int) = kd) :
    Calls Tryd.prog 20 #[.string s, .int .i64 k] w fun e w' => e = .returned (.int .u8 kd) ∧ w = w' := by
  subst h
  exact kindAt_calls s k hk w ht

set_option maxHeartbeats 4000000 in
theorem lines_calls (s : ByteArray) (w : World) (ht : Tab w) : Calls Tryd.prog 8 #[.string s] w (LnR s w) := by
  by_cases hbig : 16384 < s.size
  · have HE := hid (lnE_big (s := un s) (by rw [un_len]; exact hbig))
    go_enter Tryd.func8, Tryd.ntmps8
    go_wp2
    go_step3
    go_wp2
    rw [Exit.noGoto_ret]
    go_ret2
    exact LnR.many HE.out (Below.refl _ _)
  · go_enter Tryd.func8, Tryd.ntmps8
    go_wp2
    refine wp_scope_many (J s w) (mu s) ?_ ?_
    · intro l a wr hJ
      have HT := hid ht
      clear ht
      rcases l with _ | _ | _ | l
      · obtain ⟨lv, wv, k, f, F, h0⟩ := hJ
        have hM := F.mu 0 wr
        rw [rank0] at hM
        generalize mu s 0 a wr = M at *
        obtain ⟨u8, u9, u10, u11, u12, u13, u14, u15, u16, u17, u18, u19, u20, u21, u22, u23, u24, u25, u26, u27, u28, u29, u30, u31, u32, u33, u34, u35, u36, u37, u38, u39, u40, u41, u42, u43, u44, u45, u46, u47, u48, u49, u50, u51, u52, u53, u54, u55, u56, u57, u58, u59, rfl⟩ := F
        have HM := hid hM
        have H0 := hid h0
        have hle := h0.1.le
        have HTR := hid (HT.out.on h0.1.belowW)
        refine ⟨_, rfl, ?_⟩
        have hkd := kindS_le s k
        rcases (show kindS s k = 0 ∨ kindS s k = 1 ∨ kindS s k = 2 ∨ kindS s k = 3 by omega) with hk | hk | hk | hk
        · have HC := hid (kind_at s k hle wr HTR.out 0 (by rw [hk]; rfl))
          have hlt := h0.1.lt (by omega)
          have HK := hid hk
          have HW := hid (h0.word hk)
          clear hk hkd hM h0
          go_wp2_with fail
          refine HC.out.mono ?_
          rintro e w1 ⟨rfl, rfl⟩
          go_wp2_with fail
          go_step3
          go_wp2_with fail
          refine HC.out.mono ?_
          rintro e w1 ⟨rfl, rfl⟩
          go_wp2
          go_step3
          rw [show (k : Int) + 1 = ((k + 1 : Nat) : Int) by omega]
          exact jump2 ⟨_, _, _, _, _, _, _, _, _, _, _, _, _, _, _, _, _, _, _, _, _, _, _, _, _, _, _, _, _, _, _, _, _, _, _, _, _, _, _, _, _, _, _, _, _, _, _, _, _, _, _, _, rfl⟩ HW.out (by have := HM.out; omega)
        · have HC := hid (kind_at s k hle wr HTR.out 1 (by rw [hk]; rfl))
          have hlt := h0.1.lt (by omega)
          have HW := hid (h0.blank hk)
          clear hk hkd hM h0
          go_wp2_with fail
          refine HC.out.mono ?_
          rintro e w1 ⟨rfl, rfl⟩
          go_wp2
          go_step3
          rw [show (k : Int) + 1 = ((k + 1 : Nat) : Int) by omega]
          exact jump0 ⟨_, _, _, _, _, _, _, _, _, _, _, _, _, _, _, _, _, _, _, _, _, _, _, _, _, _, _, _, _, _, _, _, _, _, _, _, _, _, _, _, _, _, _, _, _, _, _, _, _, _, _, _, rfl⟩ HW.out (by have := HM.out; omega)
        · have HC := hid (kind_at s k hle wr HTR.out 2 (by rw [hk]; rfl))
          have HK := hid hk
          obtain ⟨_, hs, r, wk, hr, hown, hbw, hbk, hws⟩ := h0.1
          obtain ⟨wa, wc, rfl⟩ := own_slice hws
          have HL0 := hid (fun hl => H0.out.long hk hl)
          have HE0 := hid (fun hl => H0.out.empty hl)
          have HNX := hid (fun (lv2 : Value) (w2 : World) (hd : Done s w lv2 k w2) hlt hl => hd.next hlt hk hs hl)
          have HDN := hid (fun (e : k = s.size) (lv2 : Value) (w2 : World) (hd : Done s w lv2 k w2) hl => Done.end (w := w) (w2 := w2) (lv := lv2) (e ▸ hd) (by omega) (e ▸ hs) (e ▸ hl))
          have HFU := hid (fun (W : List Word) (wx w2 : World) (lv2 wv : Value) hW hne => Done.full (w := w) (wx := wx) (w2 := w2) (lv2 := lv2) (wv := wv) (W := W) hW hne hr hown hbw)
          have HRL := hid (rows_le hle hr)
          have HB := hid h0.1.belowW
          have HOW := hid hws
          have HOB := hid hbk
          have HOL := hid hown
          have HBW := hid hbw
          clear hk hkd hM h0 hs hr hown hbw hbk hws H0
          generalize hW : push (stA s k).2.1 (stA s k).2.2.1 = W at *
          have HW := hid hW
          clear hW
          generalize hn : W.length = n at *
          have HN := hid hn
          clear hn
          by_cases hl : 64 < n
          · have HE := hid (HL0.out hl)
            have HBB := HB.out
            go_wp2_with fail
            refine HC.out.mono ?_
            rintro e w1 ⟨rfl, rfl⟩
            go_wp2
            rw [jumps_ret]
            go_ret2
            exact LnR.many HE.out HBB
          · by_cases h0 : n = 0
            · have hd := HE0.out (List.eq_nil_of_length_eq_zero (by rw [HN.out]; exact h0))
              have HD := hid hd
              have HB2 := HB.out
              clear hd
              by_cases hend : k = s.size
              · have HE := hid (HDN.out hend lv wr HD.out (by omega))
                have he : ((k : Int) == (s.size : Int)) = true := by simp; omega
                clear hend
                go_wp2_with fail
                refine HC.out.mono ?_
                rintro e w1 ⟨rfl, rfl⟩
                go_wp2
                rw [jumps_ret]
                go_ret2
                exact HE.out
              · have HE := hid (HNX.out lv wr HD.out (by omega) (by omega))
                have he : ((k : Int) == (s.size : Int)) = false := by simp; omega
                clear hend
                go_wp2_with fail
                refine HC.out.mono ?_
                rintro e w1 ⟨rfl, rfl⟩
                go_wp2
                go_step3
                rw [show (k : Int) + 1 = ((k + 1 : Nat) : Int) by omega]
                exact jump0 ⟨_, _, _, _, _, _, _, _, _, _, _, _, _, _, _, _, _, _, _, _, _, _, _, _, _, _, _, _, _, _, _, _, _, _, _, _, _, _, _, _, _, _, _, _, _, _, _, _, _, _, _, _, rfl⟩ HE.out (by have := HM.out; omega)
            · have hpos : 0 < n := by omega
              have hne : W ≠ [] := by
                intro e
                have := HN.out
                rw [e] at this
                exact h0 this.symm
              have HNE := hid hne
              clear hne h0
              have hO1 : Hid ((wr.alloc (.cells #[.slice wa n wc] 29)).ownsRow w.heap.size 29 1 lv r.length (r.map Prod.snd)) := (ownsRow_below HOL.out.1 HOB.out).alloc _
              have hsz : w.heap.size ≤ (wr.alloc (.cells #[.slice wa n wc] 29)).heap.size := (HB.out.alloc HB.out.size _).size
              have hcell : (wr.alloc (.cells #[.slice wa n wc] 29)).cell? ⟨wr.heap.size, 0, none⟩ = some (.slice wa n wc) := by simp
              have hlt : wr.heap.size < (wr.alloc (.cells #[.slice wa n wc] 29)).heap.size := by simp
              have HCE := hid hcell
              have HFX := hid (fun w2 lv2 hg ho => HFU.out W (wr.alloc (.cells #[.slice wa n wc] 29)) w2 lv2 (.slice wa n wc) rfl HNE.out (HOB.out.alloc HOB.out.size _) (by rw [HN.out]; exact HOW.out.alloc _) hg ho)
              have hrl := HRL.out
              clear hcell
              go_wp2_with fail
              refine HC.out.mono ?_
              rintro e w1 ⟨rfl, rfl⟩
              go_wp2_with (at_builtin; refine wpList_append_one rfl (.tmp 28) (.tmp 30) elemL rfl w.heap.size lv rfl r.length _ hO1.out (by omega) wr.heap.size (.slice wa n wc) rfl HCE.out hlt rfl hsz ?_)
              intro lv2 w2 hown2 hgr
              have HD := hid (HFX.out w2 lv2 hgr hown2)
              have HB2 := hid (own_grown (HB.out.alloc HB.out.size _) hO1.out hgr hsz)
              clear hown2 hgr hO1 HCE HFX
              by_cases hend : k = s.size
              · have HE := hid (HDN.out hend lv2 w2 HD.out (by omega))
                have he : ((k : Int) == (s.size : Int)) = true := by simp; omega
                clear hend
                go_wp2
                rw [jumps_ret]
                go_ret2
                exact HE.out
              · have HE := hid (HNX.out lv2 w2 HD.out (by omega) (by omega))
                have he : ((k : Int) == (s.size : Int)) = false := by simp; omega
                clear hend
                go_wp2
                go_step3
                rw [show (k : Int) + 1 = ((k + 1 : Nat) : Int) by omega]
                exact jump0 ⟨_, _, _, _, _, _, _, _, _, _, _, _, _, _, _, _, _, _, _, _, _, _, _, _, _, _, _, _, _, _, _, _, _, _, _, _, _, _, _, _, _, _, _, _, _, _, _, _, _, _, _, _, rfl⟩ HE.out (by have := HM.out; omega)
        · have HC := hid (kind_at s k hle wr HTR.out 3 (by rw [hk]; rfl))
          have HW := hid (h0.hash hk)
          have HR : Hid (rank 1 (kindS s k) = 0) := by show _ = _; rw [hk]; rfl
          clear hk hkd hM h0
          go_wp2_with fail
          refine HC.out.mono ?_
          rintro e w1 ⟨rfl, rfl⟩
          go_wp2
          go_step3
          exact jump1 ⟨_, _, _, _, _, _, _, _, _, _, _, _, _, _, _, _, _, _, _, _, _, _, _, _, _, _, _, _, _, _, _, _, _, _, _, _, _, _, _, _, _, _, _, _, _, _, _, _, _, _, _, _, rfl⟩ HW.out (by have := HM.out; have := HR.out; omega)
      · obtain ⟨lv, wv, k, f, F, h1⟩ := hJ
        have hM := F.mu 1 wr
        simp only [Nat.zero_add] at hM ⊢
        generalize mu s 1 a wr = M at *
        obtain ⟨u8, u9, u10, u11, u12, u13, u14, u15, u16, u17, u18, u19, u20, u21, u22, u23, u24, u25, u26, u27, u28, u29, u30, u31, u32, u33, u34, u35, u36, u37, u38, u39, u40, u41, u42, u43, u44, u45, u46, u47, u48, u49, u50, u51, u52, u53, u54, u55, u56, u57, u58, u59, rfl⟩ := F
        have HM := hid hM
        have hle := h1.1.le
        have HTR := hid (HT.out.on h1.1.belowW)
        refine ⟨_, rfl, ?_⟩
        have hkd := kindS_le s k
        have HC := hid (kindAt_calls s k hle wr HTR.out)
        by_cases hk : kindS s k = 2
        · have HW := hid (h1.feed hk)
          rw [hk] at HC HM
          clear hk hkd hM h1
          go_wp2_with fail
          refine HC.out.mono ?_
          rintro e w1 ⟨rfl, rfl⟩
          go_wp2
          go_step3
          exact jump0 ⟨_, _, _, _, _, _, _, _, _, _, _, _, _, _, _, _, _, _, _, _, _, _, _, _, _, _, _, _, _, _, _, _, _, _, _, _, _, _, _, _, _, _, _, _, _, _, _, _, _, _, _, _, rfl⟩ HW.out (by have := HM.out; rw [rank1_feed] at this; omega)
        · have HW := hid (h1.on hk)
          have hlt := h1.1.lt hk
          have HR := hid (rank1_le (kindS s (k + 1)))
          have HR2 : Hid (kindS s k = 3 ∨ True) := .inr trivial
          generalize kindS s k = kd at *
          have hne : ((kd : Int) != 2) = true := by simp; omega
          clear hM h1
          go_wp2_with fail
          refine HC.out.mono ?_
          rintro e w1 ⟨rfl, rfl⟩
          go_wp2
          go_step3
          rw [show (k : Int) + 1 = ((k + 1 : Nat) : Int) by omega]
          exact jump1 ⟨_, _, _, _, _, _, _, _, _, _, _, _, _, _, _, _, _, _, _, _, _, _, _, _, _, _, _, _, _, _, _, _, _, _, _, _, _, _, _, _, _, _, _, _, _, _, _, _, _, _, _, _, rfl⟩ HW.out (by have := HM.out; have := HR.out; omega)
      · obtain ⟨lv, wv, k, f, F, h2⟩ := hJ
        have hM := F.mu 2 wr
        rw [rank2] at hM
        generalize mu s 2 a wr = M at *
        obtain ⟨u8, u9, u10, u11, u12, u13, u14, u15, u16, u17, u18, u19, u20, u21, u22, u23, u24, u25, u26, u27, u28, u29, u30, u31, u32, u33, u34, u35, u36, u37, u38, u39, u40, u41, u42, u43, u44, u45, u46, u47, u48, u49, u50, u51, u52, u53, u54, u55, u56, u57, u58, u59, rfl⟩ := F
        have HM := hid hM
        have H2h := hid h2
        have hle := h2.1.le
        have hfk := h2.2.2.1
        have HTR := hid (HT.out.on h2.1.belowW)
        refine ⟨_, rfl, ?_⟩
        have hkd := kindS_le s k
        have HC := hid (kindAt_calls s k hle wr HTR.out)
        by_cases hk : kindS s k = 0
        · have HW := hid (h2.word hk)
          have hlt := h2.1.lt (by omega)
          rw [hk] at HC
          clear hk hkd hM h2
          go_wp2_with fail
          refine HC.out.mono ?_
          rintro e w1 ⟨rfl, rfl⟩
          go_wp2
          go_step3
          rw [show (k : Int) + 1 = ((k + 1 : Nat) : Int) by omega]
          exact jump2 ⟨_, _, _, _, _, _, _, _, _, _, _, _, _, _, _, _, _, _, _, _, _, _, _, _, _, _, _, _, _, _, _, _, _, _, _, _, _, _, _, _, _, _, _, _, _, _, _, _, _, _, _, _, rfl⟩ HW.out (by have := HM.out; omega)
        · obtain ⟨_, hs, r, wk, hr, hown, hbw, hbk, hws⟩ := h2.1
          have hwl := words_len (s := s) hle
          have HP := hid (fun (w2 : World) (wv2 : Value) h3 h4 => H2h.out.push (w2 := w2) (wv2 := wv2) hk wk h3 r hr hown hbw h4)
          have HOW := hid hws
          have HBK := hid hbk
          clear h2 hs hr hown hbw hbk hws hM H2h
          generalize (stA s k).2.1 = W at *
          generalize kindS s k = kd at *
          have hne : ((kd : Int) == 0) = false := by simp; omega
          have HCL := hid (fun wx => clone_calls (s.extract f k) (by rw [ByteArray.size_extract]; omega) wx)
          obtain ⟨wa, wc, rfl⟩ := own_slice HOW.out
          have hn : W.length ≤ 16384 := by omega
          clear hwl
          generalize hwn : W.length = n at *
          clear hwn
          generalize strs (mkW W) = xs at *
          go_wp2_with fail
          refine HC.out.mono ?_
          rintro e w1 ⟨rfl, rfl⟩
          go_wp2_with fail
          refine (HCL.out wr).mono ?_
          rintro e w1 ⟨rfl, hb1⟩
          have hbk1 := HBK.out.trans (hb1.mono HBK.out.size)
          have hO1 : Hid ((w1.alloc (.cells #[.string (s.extract f k)] 9)).ownsRow wk.heap.size 9 1 (.slice wa n wc) n xs) := (ownsRow_below HOW.out hb1).alloc _
          have hsz : wk.heap.size ≤ (w1.alloc (.cells #[.string (s.extract f k)] 9)).heap.size := (hbk1.alloc hbk1.size _).size
          have HCE : Hid ((w1.alloc (.cells #[.string (s.extract f k)] 9)).cell? ⟨w1.heap.size, 0, none⟩ = some (.string (s.extract f k))) := by show _ = _; simp
          have hlt : w1.heap.size < (w1.alloc (.cells #[.string (s.extract f k)] 9)).heap.size := by simp
          have HB1 := hid (hbk1.alloc hbk1.size (.cells #[.string (s.extract f k)] 9))
          clear hb1 hbk1
          go_wp2_with (at_builtin; refine wpList_append_one rfl (.tmp 46) (.tmp 52) elemS rfl wk.heap.size (.slice wa n wc) rfl n _ hO1.out (by omega) w1.heap.size (.string (s.extract f k)) rfl HCE.out hlt rfl hsz ?_)
          intro wv2 w2 hown2 hgr
          have HE := hid (HP.out w2 wv2 (own_grown HB1.out hO1.out hgr hsz) hown2)
          clear hown2 hgr hO1 HCE HB1 HP
          go_wp2
          go_step3
          exact jump0 ⟨_, _, _, _, _, _, _, _, _, _, _, _, _, _, _, _, _, _, _, _, _, _, _, _, _, _, _, _, _, _, _, _, _, _, _, _, _, _, _, _, _, _, _, _, _, _, _, _, _, _, _, _, rfl⟩ HE.out (by have := HM.out; omega)
      · exact hJ.elim
    · intro hp
      go_wp2
      rename_i K hK
      go_step3
      exact hK _ _ (hp 0 _ _ _ rfl ⟨_, _, 0, 0, ⟨_, _, _, _, _, _, _, _, _, _, _, _, _, _, _, _, _, _, _, _, _, _, _, _, _, _, _, _, _, _, _, _, _, _, _, _, _, _, _, _, _, _, _, _, _, _, _, _, _, _, _, _, rfl⟩, H0.start s w⟩)
end Go.Proofs.YtfnibkepkomcdaaDoor.LxL
