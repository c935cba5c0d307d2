/-
  Texts one behind the other: Jgo Jpo Kqc Kqd Jbd Jlp Kqe Kqf.
-/
import Derived.Test.YtninkkdbcgadpaaGreatDoorPkB
import Derived.Test.YtninkkdbcgadpaaGreatDoorKqa
import Derived.Test.YtninkkdbcgadpaaGreatDoorKqb
import Derived.Test.YtninkkdbcgadpaaGreatDoorPlain
import Derived.Test.YtninkkdbcgadpaaGreatDoorPkA
import Derived.Deep.Cut

/-
  The walk of generations.
-/
namespace Go.Proofs.YtninkkdbcgadpaaGreatDoor
open Go.RowKit Go.Shelf
set_option linter.unusedVariables false
set_option linter.unusedSimpArgs false
set_option maxRecDepth 100000

theorem zIs : Zeroed 77 [.slice none 0 0] := fun _ _ _ _ _ _ _ => by kernel_rfl
theorem gens_of {rs : List Rw} {ls : List (ByteArray × List Int)} (hl : FL (play rs) ls) {fs gs : List Nat} (hr : Rise fs gs) (hn : fs.Nodup) (hm : ∀ g, g ∈ fs ↔ (1 ≤ g ∧ g ≤ 2147483647 ∧ jN g ∈ ls.map (·.1))) : Gens (play rs) gs :=
  ⟨hr.strict hn, fun g => by
    rw [hr.perm.mem_iff, hm]
    refine and_congr Iff.rfl (and_congr Iff.rfl ⟨fun h => ?_, fun h => ?_⟩)
    · obtain ⟨x, hx, e⟩ := List.mem_map.1 h
      rw [← e, (hl.mem x.1 x.2).2 hx]
      rfl
    · obtain ⟨y, hy⟩ := Option.isSome_iff_exists.1 h
      exact List.mem_map.2 ⟨_, (hl.mem _ _).1 hy, rfl⟩⟩
theorem jV_step {l : List UInt8} {q m : Nat} (hq : q < l.length) (h : jV 0 (l.take q) = some m) :
    jV 0 (l.take (q + 1)) = (Lib.digitVal (l.getD q 0)).bind fun d => if m * 10 + d ≤ 2147483647 then some (m * 10 + d) else none := by
  rw [List.take_succ_eq_append_getElem hq, jV_snoc, h]
  simp [List.getD, hq]
set_option maxHeartbeats 4000000 in
theorem gens_any (d s : Nat) (rs : List Rw) (D : Dm) (w : World) (h : DkAt w d s rs D) (hwt : wt rs ≤ 1099511000000) (hfw : ∀ l, FL (play rs) l → l.length ≤ 1000000) :
    Calls Tryz.prog 32 #[.pointer (some ⟨d, 0, none⟩)] w fun e w' => ∃ v gl, e = .returned v ∧ Gens (play rs) gl ∧ OwnV 3 w' w.heap.size v (nI gl) ∧ Below w.heap.size w w' := by
  obtain ⟨ls, hl⟩ := fl_play rs
  have hlen := hfw ls hl
  have HH := hide h
  have HL := hide hl
  have HW := hide hwt
  clear h hl hwt hfw
  refine (callsIn_wide (n := 7)).1 ?_
  refine callsIn_of_wp_marks Tryz.func32 rfl trivial ?_ rfl
  refine wpIn_wide.2 ?_
  simp only [Tryz.ntmps32, List.size_toArray, List.length_cons, List.length_nil, Nat.reduceAdd, Nat.reduceSub, Array.replicate_succ, Array.replicate_zero, List.push_toArray, List.append_toArray, List.nil_append, List.cons_append]
  go_wp2_with fail
  go_step3
  go_wp2_with fail
  go_step3
  go_wp2_with fail
  have C3 : Blk (w.alloc (.cells #[.slice none 0 0] 77)) w.heap.size 77 [.slice none 0 0] := Blk.made w 77 [.slice none 0 0]
  have hb3 : Below w.heap.size w (w.alloc (.cells #[.slice none 0 0] 77)) := (Below.refl _ _).alloc (Nat.le_refl _) _
  have hs3 : (w.alloc (.cells #[.slice none 0 0] 77)).heap.size = w.heap.size + 1 := World.size_alloc _ _
  have G3 : Hid (GI w (w.alloc (.cells #[.slice none 0 0] 77)) (w.heap.size + 1) w.heap.size (.slice none 0 0) [] []) := hide ⟨C3, OwnV.nil _ _ _, ⟨Nat.le_refl _, by omega⟩, hb3, by rw [hs3]; exact Nat.le_refl _, List.nodup_nil, Nat.le_refl _, fun g => by simp⟩
  clear C3 hb3 hs3
  revert G3
  generalize w.alloc (.cells #[.slice none 0 0] 77) = W3
  obtain ⟨B, hB⟩ : ∃ B, w.heap.size + 1 = B := ⟨_, rfl⟩
  rw [hB]
  intro G3
  have hwB : w.heap.size ≤ B := by omega
  clear hB
  refine (list_any _ _).mono ?_
  rintro r W4 ⟨rfl, rfl⟩
  have hb4 : Below W3.heap.size W3 (W3.alloc (.cells #[.pointer (some ⟨d, 0, none⟩)] 26)) := (Below.refl _ _).alloc (Nat.le_refl _) _
  have BX : Blk (W3.alloc (.cells #[.pointer (some ⟨d, 0, none⟩)] 26)) W3.heap.size 26 [.pointer (some ⟨d, 0, none⟩)] := Blk.made _ _ _
  have G4 := hide (G3.out.on hb4)
  revert G4 BX
  generalize W3.alloc (.cells #[.pointer (some ⟨d, 0, none⟩)] 26) = W4
  generalize W3.heap.size = bx
  intro BX G4
  clear hb4 G3
  have HSQ := hide (list_seq bx d s rs D HL.out HW.out W4 BX (HH.out.below G4.out.bel))
  clear BX
  go_wp2_with fail
  refine (wpIn_wide (n := 7)).1 ?_
  refine rangeR rfl (by decide) (gf := 75) (lb := #[.pointer (some ⟨bx, 0, none⟩)]) rfl trivial (enters_of Tryz.func75 (by kernel_rfl) rfl)
    HSQ.out KS.trans (fun x W l o o' hl h hc => KS.book W l o o' h hc) (fun _ => rfl) (fun pre x => rl_own _ _ pre x)
    (fun pre W => ∃ fv fs, GI w W B w.heap.size fv fs pre) (fun _ _ _ => False)
    (fun _ A C row h hg hr => by
      obtain ⟨fv, fs, hf⟩ := h
      exact ⟨fv, fs, hf.ck (CK.of_grown hg (fun r e => (hr r e).2)) (hf.bel.grown hg hf.bel.size (fun r e => by have h1 := (hr r e).1; have h2 := G4.out.bel.size; omega))⟩) (fun c _ A C row h hg hr => h) ⟨_, _, G4.out⟩ ?act ?assign ?body ?done ?stop
  case assign =>
    rintro l x W K hK
    have hsem := Oper.semAt_some
    gi_wp2
    exact hK
  case stop =>
    rintro D c pre W hD hSp hF2 hK2
    exact hF2.elim
  case body =>
    rintro l pre x W ⟨fv, fs, hf⟩ hR
    have hsem := Oper.semAt_some
    have HF := hide hf
    have HNEW := hide (rl_new HL.out hR)
    have HFEW : Hid (fs.length ≤ 1000000) := hide (by
      have h1 := hf.len
      obtain ⟨_, ys, h2⟩ := hR
      have := (List.getElem?_eq_some_iff.1 h2).1
      omega)
    have hxs : x.size ≤ 128 := by
      obtain ⟨_, ys, h2⟩ := hR
      have h3 := HH.out.nm ((HL.out.mem x ys).2 (List.mem_of_getElem? h2))
      simp [nmB] at h3
      omega
    clear hf hR
    gi_wp2_with fail
    refine ⟨trivial, (calls_round (WideF.round l) (cutp_any x W)).mono ?_⟩
    rintro _ W ⟨rfl, rfl⟩
    cases hpx : Lib.hasPrefix (strL x) jPre with
    | false =>
      have HX := hide (gn_pre hpx)
      clear hpx
      gi_wp2
      refine ⟨trivial, ?_⟩
      gi_wp2
      refine ⟨(keepsO_below (Below.refl _ _)).from _, KS.refl _, ?_⟩
      exact ⟨fv, fs, HF.out.skip HX.out⟩
    | true =>
      have hxe := has_pre hpx
      obtain ⟨tl, HTL⟩ : ∃ tl, Hid (Lib.trimPrefix (strL x) jPre = tl) := ⟨_, hide rfl⟩
      rw [HTL.out] at hxe
      rw [HTL.out]
      have HG := hide (gn_of hxe)
      have hln : x.size = 8 + tl.length := by rw [hxe, bA_size, List.length_append]; rfl
      clear hpx hxe
      gi_wp2_with fail
      refine ⟨trivial, (calls_round (WideF.round l) (padded_any tl W)).mono ?_⟩
      rintro _ W ⟨p, rfl, hp, rfl⟩
      cases p with
      | false =>
        have HX := hide (HG.out.1 (fun hh => by have := hp.2 hh; cases this))
        clear hp
        gi_wp2
        refine ⟨(keepsO_below (Below.refl _ _)).from _, KS.refl _, ?_⟩
        exact ⟨fv, fs, HF.out.skip HX.out⟩
      | true =>
        have HP := hide (hp.1 rfl)
        have hts : (bA tl).size = tl.length := bA_size tl
        clear hp
        gi_wp2_with (refine istep_toB (WideF.round l) rfl rfl ?_)
        intro W2 g2 cap2 hcel hle2 hb2
        have HB2 := hide hb2
        have HC : Hid (∀ q, q < tl.length → W2.cell? ⟨g2, q, none⟩ = some (.int .u8 ((tl.getD q 0).toNat : Nat))) := hide (fun q hq => hcel q (by rw [hts]; exact hq))
        rw [hts]
        clear hcel hle2 hb2 hts
        obtain ⟨n, HN⟩ : ∃ n, Hid (tl.length = n) := ⟨_, hide rfl⟩
        rw [HN.out] at HC hln
        rw [HN.out]
        gi_wp2_with fail
        try simp only [Act.put]
        gi_loopw [7, 28] (fun p7 p28 wr => ∃ q m : Nat, q ≤ n ∧ m ≤ 2147483647 ∧ p7 = .int .i64 (m : Int) ∧ p28 = .int .i64 (q : Int) ∧ Hid (jV 0 (tl.take q) = some m) ∧ wr = W2) (fun _ p28 _ => n - (intOf p28).toNat)
        case atStart => exact ⟨0, 0, Nat.zero_le _, by omega, rfl, rfl, hide (by simp [jV]), rfl⟩
        case round =>
          obtain ⟨q, m, hq, hm, rfl, rfl, HV, rfl⟩ := hrel
          by_cases hlt : q < n
          · have hlti : (q : Int) < (n : Int) := by omega
            have hix := b_at g2 0 n cap2 q hlt
            rw [Nat.zero_add] at hix
            obtain ⟨c, HCC⟩ : ∃ c : Nat, Hid ((tl.getD q 0).toNat = c) := ⟨_, hide rfl⟩
            have hcell : wr.cell? ⟨g2, q, none⟩ = some (.int .u8 (c : Int)) := by rw [HC.out q hlt, HCC.out]
            have hc256 : c < 256 := by rw [← HCC.out]; exact UInt8.toNat_lt _
            have HST := hide (jV_step (by rw [HN.out]; exact hlt) HV.out)
            by_cases hx : c < 48 ∨ 57 < c
            · have HX : Hid (GnOf x 0) := hide (HG.out.2.1 (jV_stop (q := q + 1) (by
                rw [HST.out]
                have : Lib.digitVal (tl.getD q 0) = none := by
                  unfold Lib.digitVal
                  rw [if_neg (by rw [HCC.out]; omega)]
                rw [this]
                rfl)))
              clear HST HV
              by_cases hx1 : c < 48
              · have hx' : (c : Int) < 48 := by omega
                clear hx
                gi_wp2
                refine ⟨(keepsO_below HB2.out).from _, KS.below HB2.out, ?_⟩
                exact ⟨fv, fs, (HF.out.on HB2.out).skip HX.out⟩
              · have hx' : ¬ (c : Int) < 48 := by omega
                have hy' : (57 : Int) < (c : Int) := by omega
                clear hx
                gi_wp2
                refine ⟨(keepsO_below HB2.out).from _, KS.below HB2.out, ?_⟩
                exact ⟨fv, fs, (HF.out.on HB2.out).skip HX.out⟩
            · have hx' : ¬ (c : Int) < 48 := by omega
              have hy' : ¬ (57 : Int) < (c : Int) := by omega
              have hdv : Lib.digitVal (tl.getD q 0) = some (c - 48) := by
                unfold Lib.digitVal
                rw [if_pos (by rw [HCC.out]; omega), HCC.out]
              rw [hdv] at HST
              have HST2 : Hid (jV 0 (tl.take (q + 1)) = if m * 10 + (c - 48) ≤ 2147483647 then some (m * 10 + (c - 48)) else none) := hide HST.out
              have hwm : IntKind.i64.wrap ((m : Int) * 10) = (m : Int) * 10 := by rw [IntKind.wrap_i64]; omega
              have hwx : IntKind.u8.wrap ((c : Int) - 48) = (c : Int) - 48 := by rw [IntKind.wrap_u8]; omega
              have hwy : IntKind.i64.wrap ((c : Int) - 48) = (c : Int) - 48 := by rw [IntKind.wrap_i64]; omega
              have hwz : IntKind.i64.wrap ((m : Int) * 10 + ((c : Int) - 48)) = (m : Int) * 10 + ((c : Int) - 48) := by rw [IntKind.wrap_i64]; omega
              have HZ : Hid ((m : Int) * 10 + ((c : Int) - 48) = ((m * 10 + (c - 48) : Nat) : Int)) := hide (by omega)
              clear hdv HST HV hx
              by_cases hov : m * 10 + (c - 48) ≤ 2147483647
              · have hov' : ¬ (2147483647 : Int) < (m : Int) * 10 + ((c : Int) - 48) := by omega
                have HV2 : Hid (jV 0 (tl.take (q + 1)) = some (m * 10 + (c - 48))) := hide (by rw [HST2.out, if_pos hov])
                clear HST2
                gi_wp2
                go_roundw
                case rel => exact ⟨q + 1, m * 10 + (c - 48), by omega, hov, by rw [← HZ.out], by go_num, HV2, trivial⟩
                case measure => simp only [intOf]; omega
              · have hov' : (2147483647 : Int) < (m : Int) * 10 + ((c : Int) - 48) := by omega
                have HX : Hid (GnOf x 0) := hide (HG.out.2.1 (jV_stop (q := q + 1) (by rw [HST2.out, if_neg hov])))
                clear HST2 hov
                gi_wp2
                refine ⟨(keepsO_below HB2.out).from _, KS.below HB2.out, ?_⟩
                exact ⟨fv, fs, (HF.out.on HB2.out).skip HX.out⟩
          · have hlti : ¬ (q : Int) < (n : Int) := by omega
            have hqn : q = n := by omega
            have HX : Hid (GnOf x m) := hide (HG.out.2.2 m HP.out (by
              have := HV.out
              rwa [hqn, List.take_of_length_le (by rw [HN.out]; exact Nat.le_refl _)] at this))
            clear HV hqn
            by_cases hm0 : m = 0
            · subst hm0
              gi_wp2
              refine ⟨(keepsO_below HB2.out).from _, KS.below HB2.out, ?_⟩
              exact ⟨fv, fs, (HF.out.on HB2.out).skip HX.out⟩
            · have hm0' : (0 : Int) < (m : Int) := by omega
              obtain ⟨va, vc, hva⟩ := HF.out.row.slice
              subst hva
              have F2 := hide (HF.out.on HB2.out)
              have d3 : wr.cell? ⟨w.heap.size, 0, none⟩ = some (.slice va (nI fs).length vc) := by rw [F2.out.c3.cell]; rfl
              gi_wp2_with (refine istep_one1 (u := .int .i64 (m : Int)) (WideF.round l) tinI rfl rfl rfl ?_)
              intro w3 g3 hg3 hle3 hb3
              have HB3 := hide (on_below HB2.out hb3)
              have F3 := hide (HF.out.on HB3.out)
              have HG3 := hide hg3
              clear hg3 hle3 hb3 d3 F2
              gi_wp2_with (refine istep_app1 (u := .int .i64 (m : Int)) (WideF.round l) tinI rfl rfl rfl rfl F3.out.row HG3.out (by rw [nI_length]; have := HFEW.out; omega) F3.out.sz ?_)
              intro g4 cap4 w4 hrow hgr hat
              have hfB : ∀ k, (Value.slice va (nI fs).length vc).ownBlock = some k → B ≤ k := fun k hk => (F3.out.row.lt k hk).1
              have c4 : Blk w4 w.heap.size 77 [.slice va (nI fs).length vc] := F3.out.c3.same (hgr.block _ F3.out.c3.lt (fun e => by have h1 := hfB _ e.symm; have h2 := F3.out.l3; omega))
              have d4 : w4.cell? ⟨w.heap.size, 0, none⟩ = some (.slice va (nI fs).length vc) := by rw [c4.cell]; rfl
              have f4 := c4.free 0
              have HFIN := hide (HF.out.push HX.out (by omega) HNEW.out HB3.out hrow hgr rfl)
              obtain ⟨n4, HN4⟩ : ∃ n4, Hid ((nI fs).length + 1 = n4) := ⟨_, hide rfl⟩
              rw [HN4.out] at HFIN
              rw [HN4.out]
              clear hrow hgr hat hfB c4
              gi_wp2
              refine ⟨HFIN.out.2.2.from _, HFIN.out.2.1, ?_⟩
              exact ⟨_, _, HFIN.out.1⟩
  case done =>
    rintro Dk ys W hD hS ⟨fv, fs, hf⟩ hK2
    subst hS
    have HF := hide hf
    have HDK := hide hK2
    have d3 : W.cell? ⟨w.heap.size, 0, none⟩ = some fv := by rw [hf.c3.cell]; rfl
    have SO := hide (sortI_any fv fs B W hf.row (by have := hf.len; rw [List.length_map] at this; omega))
    have hDw : w.heap.size ≤ Dk := by have := G4.out.bel.size; omega
    clear hf hK2 G4 HSQ
    go_wp2_with fail
    refine SO.out.mono ?_
    rintro e W2 ⟨rfl, gs, hr, hrow, hgr⟩
    have hfB : ∀ k, fv.ownBlock = some k → B ≤ k := fun k hk => (HF.out.row.lt k hk).1
    have l3 := HF.out.l3
    have c2 : Blk W2 w.heap.size 77 [fv] := HF.out.c3.same (hgr.block _ HF.out.c3.lt (fun e => by have h1 := hfB _ e.symm; omega))
    have d4 : W2.cell? ⟨w.heap.size, 0, none⟩ = some fv := by rw [c2.cell]; rfl
    have KD : Hid (W2.heap[Dk]? = some (.deferred (some []))) := hide ((hgr.block Dk (Array.getElem?_eq_some_iff.1 HDK.out).1 (fun e => by
      obtain ⟨cs, hc⟩ := HF.out.row.blk e.symm
      rw [hc] at HDK
      have := HDK.out
      cases this)).trans HDK.out)
    have BEL := hide (HF.out.bel.grown hgr HF.out.bel.size (fun r e => by have := hfB r e; omega))
    have ROW := hide hrow
    have HGN := hide (gens_of HL.out hr HF.out.nd HF.out.mem)
    clear hr hrow hgr hfB l3 c2 d3 SO HF HDK
    go_wp2
    refine ⟨by simp, .inl ⟨_, _, rfl, run_takeDeferred KD.out, ?_⟩⟩
    refine ⟨fv, by simp [results, Tryz.f32, go_sem], ?_⟩
    exact ⟨_, gs, rfl, HGN.out, (ROW.out.ck (CK.put (.deferred none) KD.out rfl)).mono hwB, BEL.out.trans (belowK_b (w := w) (Nat.le_refl _) _ Dk _ (.deferred none) (by omega) KD.out rfl rfl)⟩

end Go.Proofs.YtninkkdbcgadpaaGreatDoor

/-
  What Open does, without any program: the generations of a disk, files removed.
-/
namespace Go.Proofs.YtninkkdbcgadpaaGreatDoor
open Go.RowKit Go.Shelf
set_option linter.unusedVariables false
set_option linter.unusedSimpArgs false
set_option maxRecDepth 100000

theorem Gens.uniq {f : ByteArray → Option (List Int)} {a b : List Nat} (h : Gens f a) (h' : Gens f b) : a = b := by
  have hp : a.Perm b := perm_of_mem (h.srt.imp (fun {x y} hxy => Nat.ne_of_lt hxy)) (h'.srt.imp (fun {x y} hxy => Nat.ne_of_lt hxy)) (fun x => (h.mem x).trans (h'.mem x).symm)
  exact hp.eq_of_pairwise (le := fun x y => x < y) (fun x y _ _ h1 h2 => by omega) h.srt h'.srt
theorem gens_names : ∀ ns : List ByteArray, ∃ fs : List Nat, fs.Nodup ∧ fs.length ≤ ns.length ∧ ∀ g, g ∈ fs ↔ (1 ≤ g ∧ g ≤ 2147483647 ∧ jN g ∈ ns)
  | [] => ⟨[], List.nodup_nil, Nat.le_refl _, fun g => by simp⟩
  | x :: ns => by
    obtain ⟨fs, h1, h0, h2⟩ := gens_names ns
    obtain ⟨g, hg⟩ := gn_ex x
    by_cases hin : x ∈ ns
    · refine ⟨fs, h1, by simp; omega, fun k => (h2 k).trans ⟨fun ⟨a, b, c⟩ => ⟨a, b, by simp [c]⟩, fun ⟨a, b, c⟩ => ⟨a, b, ?_⟩⟩⟩
      rcases List.mem_cons.1 c with c | c
      · rw [c]; exact hin
      · exact c
    · rcases hg with ⟨a, b, c⟩ | ⟨a, b⟩
      · refine ⟨g :: fs, List.nodup_cons.2 ⟨fun hf => hin (by rw [c]; exact ((h2 g).1 hf).2.2), h1⟩, by simp; omega, fun k => ?_⟩
        rw [List.mem_cons, h2]
        constructor
        · rintro (rfl | ⟨q1, q2, q3⟩)
          · exact ⟨a, b, by simp [c]⟩
          · exact ⟨q1, q2, by simp [q3]⟩
        · rintro ⟨q1, q2, q3⟩
          rcases List.mem_cons.1 q3 with q3 | q3
          · left; exact jN_inj (q3.trans c)
          · right; exact ⟨q1, q2, q3⟩
      · refine ⟨fs, h1, by simp; omega, fun k => (h2 k).trans ⟨fun ⟨q1, q2, q3⟩ => ⟨q1, q2, by simp [q3]⟩, fun ⟨q1, q2, q3⟩ => ⟨q1, q2, ?_⟩⟩⟩
        rcases List.mem_cons.1 q3 with q3 | q3
        · exact absurd q3.symm (b k q1 q2)
        · exact q3
theorem gens_ex (rs : List Rw) : ∃ gl, Gens (play rs) gl := by
  obtain ⟨ls, hl⟩ := fl_play rs
  obtain ⟨fs, h1, _, h2⟩ := gens_names (ls.map (·.1))
  obtain ⟨gs, hr, _⟩ := rise_ex fs
  exact ⟨gs, gens_of hl hr h1 h2⟩
theorem snoc_ind {α : Type} {p : List α → Prop} (h0 : p []) (h1 : ∀ t x, p t → p (t ++ [x])) : ∀ t, p t := fun t => by
  have key : ∀ l : List α, p l.reverse := fun l => by
    induction l with
    | nil => exact h0
    | cons x l ih => rw [List.reverse_cons]; exact h1 _ _ ih
  have h := key t.reverse
  rwa [List.reverse_reverse] at h
/-- Files of generations removed, one behind the other. -/
def rmAll (rs : List Rw) (t : List Nat) : List Rw := t.foldl (fun r g => rmS r (jN g)) rs
theorem rmAll_snoc (rs : List Rw) (t : List Nat) (g : Nat) : rmAll rs (t ++ [g]) = rmS (rmAll rs t) (jN g) := by simp [rmAll]
theorem rmAll_wt (rs : List Rw) : ∀ t : List Nat, wt (rmAll rs t) ≤ wt rs + t.length := by
  refine snoc_ind (by simp [rmAll]) (fun t g ih => ?_)
  · rw [rmAll_snoc]
    have : ∀ r n, wt (rmS r n) ≤ wt r + 1 := fun r n => by
      unfold rmS
      split
      · rw [wt_app]; simp [wt, rRm]
      · omega
    have := this (rmAll rs t) (jN g)
    simp
    omega
theorem rmAll_play (rs : List Rw) : ∀ t : List Nat, t.Nodup → (∀ g ∈ t, g ≤ 2147483647 ∧ (play rs (jN g)).isSome = true) → (∀ g ∈ t, play (rmAll rs t) (jN g) = none) ∧ ∀ n, (∀ g ∈ t, n ≠ jN g) → play (rmAll rs t) n = play rs n := by
  refine snoc_ind (fun _ _ => ⟨(fun g hg => by cases hg), fun n _ => rfl⟩) (fun t g ih => ?_)
  · intro hn hx
    have hn' := List.nodup_append.1 hn
    obtain ⟨i1, i2⟩ := ih hn'.1 (fun k hk => hx k (by simp [hk]))
    obtain ⟨x1, x2⟩ := hx g (by simp)
    have hgt : ∀ k ∈ t, g ≠ k := fun k hk e => hn'.2.2 k hk g (by simp) e.symm
    have e1 : play (rmAll rs t) (jN g) = play rs (jN g) := i2 _ (fun k hk => jN_ne (hgt k hk))
    obtain ⟨y, hy⟩ := Option.isSome_iff_exists.1 x2
    have hf : fE (rmAll rs t) (jN g) = 0 := fE_some (jN_nm x1) (e1.trans hy)
    rw [rmAll_snoc, play_rm hf]
    refine ⟨fun k hk => ?_, fun n hne => ?_⟩
    · rcases List.mem_append.1 hk with hk | hk
      · rw [upd_ne _ _ (jN_ne (hgt k hk).symm)]
        exact i1 k hk
      · simp at hk
        rw [hk, upd_same]
    · rw [upd_ne _ _ (hne g (by simp))]
      exact i2 n (fun k hk => hne k (by simp [hk]))
theorem rmAll_fE (rs : List Rw) (t : List Nat) (g : Nat) (hn : (t ++ [g]).Nodup) (hx : ∀ k ∈ t ++ [g], k ≤ 2147483647 ∧ (play rs (jN k)).isSome = true) : fE (rmAll rs t) (jN g) = 0 := by
  have hn' := List.nodup_append.1 hn
  obtain ⟨i1, i2⟩ := rmAll_play rs t hn'.1 (fun k hk => hx k (by simp [hk]))
  obtain ⟨x1, x2⟩ := hx g (by simp)
  obtain ⟨y, hy⟩ := Option.isSome_iff_exists.1 x2
  exact fE_some (jN_nm x1) ((i2 _ (fun k hk => jN_ne (fun e => hn'.2.2 k hk g (by simp) e.symm))).trans hy)
/-- What Open leaves of the files: those of the least generation, cut to what is whole. -/
def opS (rs : List Rw) (g : Nat) (t : List Nat) (n : Nat) : List Rw := cuS (rmAll rs t) (jN g) (n : Int)
theorem open_pure {rs : List Rw} {g : Nat} {t : List Nat} (h : Gens (play rs) (g :: t)) {xs : List Int} (hp : play rs (jN g) = some xs) {n : Nat} (hn : n ≤ xs.length) :
    cuE (rmAll rs t) (jN g) (n : Int) = 0 ∧ play (rmAll rs t) (jN g) = some xs ∧ Gens (play (opS rs g t n)) [g] ∧ play (opS rs g t n) (jN g) = some (xs.take n) ∧ ∀ m, (∀ k ∈ g :: t, m ≠ jN k) → play (opS rs g t n) m = play rs m := by
  have hnd : (g :: t).Nodup := h.srt.imp (fun {x y} hxy => Nat.ne_of_lt hxy)
  have hg := (h.mem g).1 (by simp)
  have hgt : g ∉ t := (List.nodup_cons.1 hnd).1
  obtain ⟨i1, i2⟩ := rmAll_play rs t (List.nodup_cons.1 hnd).2 (fun k hk => by
    have := (h.mem k).1 (by simp [hk])
    exact ⟨this.2.1, this.2.2⟩)
  have e1 : play (rmAll rs t) (jN g) = some xs := (i2 _ (fun k hk => jN_ne (fun e => hgt (by rw [e]; exact hk)))).trans hp
  have nm := jN_nm hg.2.1
  have f0 := fE_some nm e1
  have l0 : fl (play (rmAll rs t)) (jN g) = xs := by simp [fl, e1]
  have c0 : cuE (rmAll rs t) (jN g) (n : Int) = 0 := by
    unfold cuE
    rw [f0, l0, if_pos rfl, if_neg (by omega)]
  have key : play (opS rs g t n) (jN g) = some (xs.take n) ∧ ∀ m, m ≠ jN g → play (opS rs g t n) m = play (rmAll rs t) m := by
    rcases play_cu c0 with h1 | ⟨h1, h2⟩
    · unfold opS
      rw [h1, l0]
      exact ⟨by rw [upd_same]; simp, fun m hm => upd_ne _ _ hm⟩
    · unfold opS
      rw [h1]
      rw [l0] at h2
      exact ⟨by rw [e1, List.take_of_length_le (by omega)], fun m hm => rfl⟩
  refine ⟨c0, e1, Gens.mk1 hg.1 hg.2.1 key.1 (fun k k1 k2 hk => ?_), key.1, fun m hm => ?_⟩
  · rw [key.2 _ (jN_ne hk)]
    by_cases hkt : k ∈ t
    · exact i1 k hkt
    · rw [i2 _ (fun q hq => jN_ne (fun e => hkt (by rw [e]; exact hq)))]
      cases hf : play rs (jN k) with
      | none => rfl
      | some y =>
        have := (h.mem k).2 ⟨k1, k2, by rw [hf]; rfl⟩
        rcases List.mem_cons.1 this with e | e
        · exact absurd e hk
        · exact absurd e hkt
  · rw [key.2 m (hm g (by simp)), i2 m (fun k hk => hm k (by simp [hk]))]
theorem wt_opS (rs : List Rw) (g : Nat) (t : List Nat) (n : Nat) : wt (opS rs g t n) ≤ wt rs + t.length + 1 := by
  have := rmAll_wt rs t
  unfold opS cuS
  split
  · rw [wt_app]
    simp [wt, rCu]
    have e : (List.map (fun r => r.b.length + 1) (rmAll rs t)).sum = wt (rmAll rs t) := rfl
    have e2 : (List.map (fun r => r.b.length + 1) rs).sum = wt rs := rfl
    omega
  · omega

end Go.Proofs.YtninkkdbcgadpaaGreatDoor

/-
  The document's disk in memory; New, name, find.
-/
namespace Go.Proofs.YtninkkdbcgadpaaGreatDoor
open Go.RowKit
set_option linter.unusedVariables false

def filC (l : List (ByteArray × List Int)) : List Value := l.flatMap fun x => [.string x.1, .string (str x.2)]
theorem filC_app (a b : List (ByteArray × List Int)) : filC (a ++ b) = filC a ++ filC b := by simp [filC]
theorem filC_cons (x : ByteArray × List Int) (b : List (ByteArray × List Int)) : filC (x :: b) = [.string x.1, .string (str x.2)] ++ filC b := by simp [filC]
theorem filC_length (l : List (ByteArray × List Int)) : (filC l).length = l.length * 2 := by
  induction l with
  | nil => rfl
  | cons x r ih => rw [filC_cons]; simp at ih ⊢; omega
theorem filC_take (l : List (ByteArray × List Int)) (k : Nat) : filC (l.take k) = (filC l).take (k * 2) := by
  by_cases hk : k ≤ l.length
  · have e : filC l = filC (l.take k) ++ filC (l.drop k) := by rw [← filC_app, List.take_append_drop]
    rw [e, List.take_left' (by rw [filC_length, List.length_take, Nat.min_eq_left hk])]
  · rw [List.take_of_length_le (by omega), List.take_of_length_le (by rw [filC_length]; omega)]
theorem filC_drop (l : List (ByteArray × List Int)) (k : Nat) : filC (l.drop k) = (filC l).drop (k * 2) := by
  by_cases hk : k ≤ l.length
  · have e : filC l = filC (l.take k) ++ filC (l.drop k) := by rw [← filC_app, List.take_append_drop]
    rw [e, List.drop_left' (by rw [filC_length, List.length_take, Nat.min_eq_left hk])]
  · rw [List.drop_of_length_le (by omega), List.drop_of_length_le (by rw [filC_length]; omega)]
    rfl
theorem filC_one (l : List (ByteArray × List Int)) : ∀ x ∈ filC l, x.oneCell' = true := by
  intro x hx
  simp only [filC, List.mem_flatMap] at hx
  obtain ⟨y, _, hy⟩ := hx
  simp at hy
  rcases hy with rfl | rfl <;> rfl
def fi0 : Value := .agg #[.string ByteArray.empty, .string ByteArray.empty]
theorem rFi : Ro 100 129 2 32 fi0 := ⟨by kernel_rfl, by kernel_rfl, by kernel_rfl, rfl, by decide, by decide, fun w => by kernel_rfl⟩
theorem wFi : Wide 129 2 := ⟨by kernel_rfl, by kernel_rfl⟩
theorem wRk : Wide 103 3 := ⟨by kernel_rfl, by kernel_rfl⟩
def rkC (s : Int) (fv qv : Value) : List Value := [.int .i64 s, fv, qv]
/-- The files of the document's disk in memory. -/
structure FkAt (w : World) (r s : Nat) (fv qv : Value) (l : List (ByteArray × List Int)) : Prop where
  blk : Blk w r 103 (rkC s fv qv)
  row : w.ownsRow 0 129 2 fv l.length (filC l)
section
variable {w w' : World} {r s : Nat} {fv qv : Value} {l : List (ByteArray × List Int)}
theorem FkAt.below (h : FkAt w r s fv qv l) (hb : Below w.heap.size w w') : FkAt w' r s fv qv l :=
  ⟨h.blk.on hb, row_same h.row (fun k hk => by obtain ⟨cs, hc⟩ := row_lies h.row hk; exact hb.block k hc.lt)⟩
/-- A file's two cells. -/
theorem FkAt.file (h : FkAt w r s fv qv l) {k : Nat} {x : ByteArray × List Int} (hx : l[k]? = some x) : ∃ g cap cs, fv = .slice (some ⟨g, 0, none⟩) l.length cap ∧ Blk w g 129 cs ∧ cs.take (l.length * 2) = filC l ∧ l.length * 2 ≤ cs.length ∧ (cs.drop (k * 2)).take 2 = [.string x.1, .string (str x.2)] ∧ cs[k * 2]? = some (.string x.1) ∧ cs[k * 2 + 1]? = some (.string (str x.2)) := by
  have hlt : k < l.length := (List.getElem?_eq_some_iff.1 hx).1
  obtain ⟨g, cap, cs, h1, h2, h3, h4⟩ := row_at h.row (by omega)
  have e1 : l = l.take k ++ (x :: l.drop (k + 1)) := by
    obtain ⟨hlt, rfl⟩ := List.getElem?_eq_some_iff.1 hx
    rw [← List.drop_eq_getElem_cons hlt, List.take_append_drop]
  have e2 : filC l = filC (l.take k) ++ ([.string x.1, .string (str x.2)] ++ filC (l.drop (k + 1))) := by rw [← filC_cons, ← filC_app, ← e1]
  have e3 : (filC (l.take k)).length = k * 2 := by rw [filC_length, List.length_take, Nat.min_eq_left (by omega)]
  have e4 : (cs.drop (k * 2)).take 2 = [.string x.1, .string (str x.2)] := by
    have : ((filC l).drop (k * 2)).take 2 = [.string x.1, .string (str x.2)] := by
      rw [e2, List.drop_left' e3]
      rfl
    rw [← h3, List.drop_take, List.take_take, Nat.min_eq_left (by omega)] at this
    exact this
  refine ⟨g, cap, cs, h1, h2, h3, h4, e4, ?_, ?_⟩
  · have := congrArg (fun z => z[0]?) e4
    simpa [List.getElem?_take, List.getElem?_drop] using this
  · have := congrArg (fun z => z[1]?) e4
    simpa [List.getElem?_take, List.getElem?_drop] using this
end

theorem nameR_any (n : ByteArray) (w : World) : Calls Tryz.prog 90 #[.string n] w fun e w' => e = .returned (.bool (nmB n)) ∧ w' = w := by
  unfold nmB
  by_cases h1 : 1 ≤ n.size
  · by_cases h2 : n.size ≤ 128
    · go_enter Tryz.func90, Tryz.ntmps90
      go_wp2
      go_ret
      exact ⟨by congr; simp [h1, h2]; omega, rfl⟩
    · go_enter Tryz.func90, Tryz.ntmps90
      go_wp2
      go_ret
      exact ⟨by congr; simp [h1, h2]; omega, rfl⟩
  · go_enter Tryz.func90, Tryz.ntmps90
    go_wp2
    go_ret
    exact ⟨by simp, rfl⟩
/-- Is the file there that find's place shows? -/
theorem FL.found {f : ByteArray → Option (List Int)} {l : List (ByteArray × List Int)} (h : FL f l) (n : ByteArray) {x : ByteArray × List Int} (hx : l[posF l n]? = some x) : (x.1.toList == n.toList) = (f n).isSome := by
  obtain ⟨A, B, rfl, hA, hlt, hB⟩ := h.split n
  have hx2 : B[0]? = some x := by rw [← hA, List.getElem?_append_right (Nat.le_refl _), Nat.sub_self] at hx; exact hx
  rcases hB with ⟨h1, h2⟩ | ⟨xs, B', h1, rfl, h3⟩
  · rw [h1]
    have := h2 x (List.mem_of_getElem? hx2)
    exact beqS_ne (Ne.symm (blt_ne this))
  · simp at hx2
    subst hx2
    rw [h1]
    simp
theorem FL.gone {f : ByteArray → Option (List Int)} {l : List (ByteArray × List Int)} (h : FL f l) (n : ByteArray) (hx : l.length ≤ posF l n) : (f n).isSome = false := by
  obtain ⟨A, B, rfl, hA, hlt, hB⟩ := h.split n
  have hB0 : B = [] := by
    rw [List.length_append] at hx
    exact List.eq_nil_of_length_eq_zero (by omega)
  subst hB0
  rcases hB with ⟨h1, h2⟩ | ⟨xs, B', h1, h2, h3⟩
  · rw [h1]; rfl
  · cases h2
set_option maxRecDepth 100000 in
set_option maxHeartbeats 1000000 in
theorem find_any (r s : Nat) (fv qv : Value) (l : List (ByteArray × List Int)) (f : ByteArray → Option (List Int)) (n : ByteArray) (w : World) (h : FkAt w r s fv qv l) (hf : FL f l) (hl : l.length ≤ 1099511000000) :
    Calls Tryz.prog 73 #[.pointer (some ⟨r, 0, none⟩), .string n] w fun e w' => e = .returned (.tuple #[.int .i64 (posF l n : Nat), .bool (f n).isSome]) ∧ Below w.heap.size w w' := by
  obtain ⟨fa, fc, rfl⟩ := row_slice h.row
  have c1 : w.cell? ⟨r, 1, none⟩ = some (.slice fa l.length fc) := by rw [h.blk.cell]; rfl
  have HH := hide h
  have HF := hide hf
  clear h hf
  generalize hL : l.length = L at *
  have HL := hide hL
  clear hL
  go_enter Tryz.func73, Tryz.ntmps73
  go_wp2
  go_loopw [6] (fun i wr => ∃ k : Nat, i = .int .i64 (k : Int) ∧ Hid (k ≤ posF l n) ∧ w = wr) (fun i _ => L - (intOf i).toNat)
  case atStart => exact ⟨0, rfl, hide (Nat.zero_le _), rfl⟩
  case round =>
    obtain ⟨k, rfl, HK, rfl⟩ := hrel
    have hkL : k ≤ L := by have h1 := HK.out; have h2 := posF_le l n; have h3 := HL.out; omega
    by_cases hlt : k < L
    · obtain ⟨x, hx⟩ : ∃ x, l[k]? = some x := ⟨_, List.getElem?_eq_getElem (by rw [HL.out]; exact hlt)⟩
      obtain ⟨g, cap, cs, e1, hg, _, _, _, hc0, _⟩ := HH.out.file hx
      injection e1 with e1 _ e3
      subst e1 e3
      have hix := vw_at rFi g L fc k hlt
      have hcell : w.cell? ⟨g, k * 2, none⟩ = some (.string x.1) := by rw [hg.cell]; exact hc0
      have hlti : (k : Int) < (L : Int) := by omega
      have hpos := posF_lt l n k x hx HK.out
      unfold blt at hpos
      have HPOS := hide hpos
      have HX := hide hx
      clear hpos hc0 hg hx
      cases hb : Op.bytesLess x.1.toList n.toList with
      | true =>
        go_wp2
        go_roundw
        case rel => exact ⟨k + 1, by go_num, hide (HPOS.out.1 hb), trivial⟩
        case measure => simp [intOf]; omega
      | false =>
        have hkp : k = posF l n := by
          have h1 := HK.out
          have h2 : ¬ k < posF l n := fun h => by rw [HPOS.out.2 h] at hb; cases hb
          omega
        have HKP := hide hkp
        clear hkp
        go_wp2_with fail
        go_quiet (fail)
        go_wp2
        go_ret2
        rw [← HF.out.found n (by rw [← HKP.out]; exact HX.out), ← HKP.out]
        exact ⟨rfl, below_drewN (Below.refl _ _) _⟩
    · have hlti : ¬ (k : Int) < (L : Int) := by omega
      have hkp : k = posF l n := by have h1 := HK.out; have h2 := posF_le l n; have h3 := HL.out; omega
      have HKP := hide hkp
      clear hkp
      go_wp2_with fail
      go_quiet (fail)
      go_wp2
      go_ret2
      rw [HF.out.gone n (by have h2 := HKP.out; have h3 := HL.out; omega), ← HKP.out]
      exact ⟨rfl, below_drewN (Below.refl _ _) _⟩

end Go.Proofs.YtninkkdbcgadpaaGreatDoor

/-
  The document's disk in memory, whole; what do's branches leave, and its end.
-/
namespace Go.Proofs.YtninkkdbcgadpaaGreatDoor
open Go.RowKit
set_option linter.unusedVariables false

theorem str_take (xs : List Int) (k : Nat) : (str xs).extract 0 k = str (xs.take k) := by
  apply ByteArray.ext
  rw [ByteArray.data_extract]
  apply Array.toList_inj.1
  rw [Array.toList_extract]
  simp [str, strOfNums, List.extract, List.map_take]
theorem str_mid (xs : List Int) (i j : Nat) : (str xs).extract i j = str ((xs.drop i).take (j - i)) := by
  apply ByteArray.ext
  rw [ByteArray.data_extract]
  apply Array.toList_inj.1
  rw [Array.toList_extract]
  simp [str, strOfNums, List.extract, List.map_take, List.map_drop]
/-- Raw writes' cells, one behind the other. -/
def rwsC (l : List (Rw × Value)) : List Value := l.flatMap fun x => rwC x.1.k x.1.n x.2 x.1.s x.1.t
theorem rwsC_app (a b : List (Rw × Value)) : rwsC (a ++ b) = rwsC a ++ rwsC b := by simp [rwsC]
theorem rwsC_length (l : List (Rw × Value)) : (rwsC l).length = l.length * 5 := by
  induction l with
  | nil => rfl
  | cons x r ih => simp [rwsC, rwC] at ih ⊢; omega
theorem rRw : Ro 101 111 5 72 (.agg rw0.toArray) := ⟨by kernel_rfl, by kernel_rfl, by kernel_rfl, rfl, by decide, by decide, fun w => by kernel_rfl⟩
structure Rm where
  fv : Value
  qv : Value
  l : List (ByteArray × List Int)
  qs : List (Rw × Value)
def Rm.own (R : Rm) (r k : Nat) : Prop := k = r ∨ R.fv.ownBlock = some k ∨ R.qv.ownBlock = some k
def Rm.ro (R : Rm) (k : Nat) : Prop := ∃ x ∈ R.qs, x.2.ownBlock = some k
/-- The document's disk in memory, with the raw writes that it has recorded. -/
structure RkAt (w : World) (r s : Nat) (rs : List Rw) (R : Rm) : Prop where
  s1 : 1 ≤ s
  s2 : s ≤ 4096
  fk : FkAt w r s R.fv R.qv R.l
  row : w.ownsRow 0 111 5 R.qv R.qs.length (rwsC R.qs)
  byt : ∀ x ∈ R.qs, BV w x.2 x.1.b
  raw : R.qs.map (·.1) = rs
  fls : FL (play rs) R.l
  val : Val s (fun _ => none) rs
  few : R.l.length ≤ rs.length
section
variable {w w' W : World} {r s : Nat} {rs : List Rw} {R : Rm}
theorem RkAt.same (h : RkAt w r s rs R) (hk : ∀ k, R.own r k ∨ R.ro k → w'.heap[k]? = w.heap[k]?) : RkAt w' r s rs R :=
  ⟨h.s1, h.s2, ⟨h.fk.blk.same (hk r (.inl (.inl rfl))), row_same h.fk.row (fun k e => hk k (.inl (.inr (.inl e))))⟩, row_same h.row (fun k e => hk k (.inl (.inr (.inr e)))), fun x hx => (h.byt x hx).same (fun k e => hk k (.inr ⟨x, hx, e⟩)), h.raw, h.fls, h.val, h.few⟩
/-- A block of the disk's, with its kind. -/
theorem RkAt.kind (h : RkAt w r s rs R) {k : Nat} (hk : R.own r k) : ∃ t cs, Blk w k t cs ∧ (t = 103 ∨ t = 129 ∨ t = 111) := by
  rcases hk with rfl | hk | hk
  · exact ⟨_, _, h.fk.blk, .inl rfl⟩
  · obtain ⟨cs, hc⟩ := row_lies h.fk.row hk; exact ⟨_, cs, hc, .inr (.inl rfl)⟩
  · obtain ⟨cs, hc⟩ := row_lies h.row hk; exact ⟨_, cs, hc, .inr (.inr rfl)⟩
theorem RkAt.off (h : RkAt w r s rs R) {k : Nat} {cs : List Value} (hc : Blk w k 5 cs) : ¬ R.own r k := fun hk => by
  obtain ⟨t, cs', h1, h2⟩ := h.kind hk
  rcases h2 with rfl | rfl | rfl <;> exact hc.apart h1 (by decide) rfl
theorem RkAt.lt (h : RkAt w r s rs R) {k : Nat} (hk : R.own r k ∨ R.ro k) : k < w.heap.size := by
  rcases hk with hk | ⟨x, hx, hk⟩
  · obtain ⟨t, cs, h1, _⟩ := h.kind hk; exact h1.lt
  · obtain ⟨cs, hc⟩ := (h.byt x hx).lies hk; exact hc.lt
theorem RkAt.below (h : RkAt w r s rs R) (hb : Below w.heap.size w w') : RkAt w' r s rs R := h.same (fun k hk => hb.block k (h.lt hk))
theorem RkAt.chs {S : Nat → Prop} (h : RkAt w r s rs R) (hc : Chs S w w') (hn : ∀ k, R.own r k ∨ R.ro k → ¬ S k) : RkAt w' r s rs R := h.same (fun k hk => hc.block k (h.lt hk) (hn k hk))
end
/-- What a call that writes leaves of the document's disk; v: a slice that it may keep. -/
def RoR (w w' : World) (r s : Nat) (R : Rm) (rs' : List Rw) (v : Value) : Prop :=
  ∃ R', RkAt w' r s rs' R' ∧ Chs (R.own r) w w' ∧ (∀ k, R'.own r k → R.own r k ∨ w.heap.size ≤ k) ∧ (∀ k, R'.ro k → R.ro k ∨ v.ownBlock = some k)
/-- What stands in do behind a branch. -/
structure DsR (w W : World) (r s : Nat) (R : Rm) (fv : Value) (l : List (ByteArray × List Int)) (x : Rw) (v : Value) (g3 : Nat) : Prop where
  fk : FkAt W r s fv R.qv l
  row : W.ownsRow 0 111 5 R.qv R.qs.length (rwsC R.qs)
  gb : Blk W g3 111 (rwC x.k x.n v x.s x.t)
  new : w.heap.size ≤ g3
  chs : Chs (R.own r) w W
  lie : ∀ k, fv.ownBlock = some k → R.own r k ∨ w.heap.size ≤ k
  off : R.qv.ownBlock ≠ some g3
section
variable {w W W' : World} {r s : Nat} {rs : List Rw} {R : Rm} {fv : Value} {l : List (ByteArray × List Int)} {x : Rw} {v : Value} {g3 : Nat}
theorem DsR.below (h : DsR w W r s R fv l x v g3) (hb : Below W.heap.size W W') : DsR w W' r s R fv l x v g3 :=
  ⟨h.fk.below hb, row_same h.row (fun k hk => by obtain ⟨cs, hc⟩ := row_lies h.row hk; exact hb.block k hc.lt), h.gb.on hb, h.new, h.chs.thenBelow hb, h.lie, h.off⟩
theorem DsR.r0 (h : DsR w W r s R fv l x v g3) : W.cell? ⟨g3, 0, none⟩ = some (.int .i64 x.k) := by rw [h.gb.cell]; rfl
theorem DsR.r1 (h : DsR w W r s R fv l x v g3) : W.cell? ⟨g3, 1, none⟩ = some (.string x.n) := by rw [h.gb.cell]; rfl
theorem DsR.r2 (h : DsR w W r s R fv l x v g3) : W.cell? ⟨g3, 2, none⟩ = some v := by rw [h.gb.cell]; rfl
theorem DsR.r3 (h : DsR w W r s R fv l x v g3) : W.cell? ⟨g3, 3, none⟩ = some (.int .i64 x.s) := by rw [h.gb.cell]; rfl
theorem DsR.r4 (h : DsR w W r s R fv l x v g3) : W.cell? ⟨g3, 4, none⟩ = some (.string x.t) := by rw [h.gb.cell]; rfl
theorem DsR.c1 (h : DsR w W r s R fv l x v g3) : W.cell? ⟨r, 1, none⟩ = some fv := by rw [h.fk.blk.cell]; rfl
theorem DsR.c2 (h : DsR w W r s R fv l x v g3) : W.cell? ⟨r, 2, none⟩ = some R.qv := by rw [h.fk.blk.cell]; rfl
theorem RkAt.ds (h : RkAt w r s rs R) {w1 : World} (hb : Below w.heap.size w w1) (hg : Blk w1 g3 111 (rwC x.k x.n v x.s x.t)) (hl : w.heap.size ≤ g3) : DsR w w1 r s R R.fv R.l x v g3 :=
  ⟨h.fk.below hb, row_same h.row (fun k hk => by obtain ⟨cs, hc⟩ := row_lies h.row hk; exact hb.block k hc.lt), hg, hl, Chs.of_below _ hb, fun k hk => .inl (.inr (.inl hk)), fun e => by have := h.lt (.inl (.inr (.inr e))); omega⟩
/-- The record has grown: the disk is whole again. -/
theorem DsR.done {rs' : List Rw} {qv' : Value} (h : RkAt w r s rs R) (hr : Lraw s (play rs) x) (hv : BV w v x.b) (hf : FL (doR (play rs) x) l) (hl : l.length ≤ rs.length + 1) (hfk : FkAt W' r s fv qv' l) (hrow : W'.ownsRow 0 111 5 qv' (R.qs ++ [(x, v)]).length (rwsC (R.qs ++ [(x, v)])))
    (hchs : Chs (R.own r) w W') (hlie : ∀ k, fv.ownBlock = some k → R.own r k ∨ w.heap.size ≤ k) (hlq : ∀ k, qv'.ownBlock = some k → R.own r k ∨ w.heap.size ≤ k) (hrs : rs' = rs ++ [x]) : RoR w W' r s R rs' v := by
  subst hrs
  refine ⟨⟨fv, qv', l, R.qs ++ [(x, v)]⟩, ⟨h.s1, h.s2, hfk, hrow, ?_, ?_, ?_, ?_, ?_⟩, hchs, ?_, ?_⟩
  · intro y hy
    rcases List.mem_append.1 hy with hy | hy
    · exact (h.byt y hy).same (fun k hk => by
        obtain ⟨cs, hc⟩ := (h.byt y hy).lies hk
        exact hchs.block k hc.lt (h.off hc))
    · simp at hy
      subst hy
      exact hv.same (fun k hk => by
        obtain ⟨cs, hc⟩ := hv.lies hk
        exact hchs.block k hc.lt (h.off hc))
  · simp [h.raw]
  · rw [play_snoc]; exact hf
  · rw [Val_app]
    exact ⟨h.val, hr, trivial⟩
  · simpa using hl
  · intro k hk
    rcases hk with hk | hk | hk
    · exact .inl (.inl hk)
    · exact hlie k hk
    · exact hlq k hk
  · intro k ⟨y, hy, e⟩
    rcases List.mem_append.1 hy with hy | hy
    · exact .inl ⟨y, hy, e⟩
    · simp at hy
      subst hy
      exact .inr e
end
theorem val_isB {s : Nat} : ∀ (rs : List Rw) (f : ByteArray → Option (List Int)), Val s f rs → (∀ n xs, f n = some xs → isB xs) → ∀ n xs, (rs.foldl doR f) n = some xs → isB xs
  | [], f, _, h => h
  | r :: t, f, hv, h => by
    refine val_isB t (doR f r) hv.2 (fun n xs hn => ?_)
    have key : ∀ (g : ByteArray → Option (List Int)) (m : ByteArray) (u : Option (List Int)), (∀ n xs, g n = some xs → isB xs) → (∀ xs, u = some xs → isB xs) → ∀ n xs, upd g m u n = some xs → isB xs := by
      intro g m u h1 h2 n xs hn
      unfold upd at hn
      split at hn
      · exact h2 xs hn
      · exact h1 n xs hn
    have hfl : ∀ m, isB (fl f m) := fun m => by
      unfold fl
      cases hm : f m with
      | none => exact fun x hx => by cases hx
      | some ys => exact h m ys hm
    rcases hv.1.1 with ⟨m, rfl, _⟩ | ⟨m, b, ys, rfl, _, _, _, hb⟩ | ⟨m, k, ys, rfl, _⟩ | ⟨m, ys, rfl, _⟩ | ⟨m, u, ys, rfl, _⟩
    · rw [do_cr] at hn
      exact key _ _ _ h (fun zs e => by injection e with e; subst e; exact fun x hx => by cases hx) n xs hn
    · rw [do_ap] at hn
      exact key _ _ _ h (fun zs e => by injection e with e; subst e; exact (hfl m).append hb) n xs hn
    · rw [do_cu] at hn
      exact key _ _ _ h (fun zs e => by injection e with e; subst e; exact (hfl m).take _) n xs hn
    · rw [do_rm] at hn
      exact key _ _ _ h (fun zs e => by cases e) n xs hn
    · rw [do_rn] at hn
      exact key _ _ _ (key _ _ _ h (fun zs e => by injection e with e; subst e; exact hfl m)) (fun zs e => by cases e) n xs hn
theorem RkAt.isb {w : World} {r s : Nat} {rs : List Rw} {R : Rm} (h : RkAt w r s rs R) {n : ByteArray} {xs : List Int} (hn : play rs n = some xs) : isB xs := val_isB rs _ h.val (fun n xs h => by cases h) n xs hn

/-! ### slices of files made -/
section
variable {dst : Option Tmp} {ty : TypeId} {pos : String} {aft : Array Edge} {gd : Option (Nat × Bool)} {ops : Array Oper} {rest : List Oper} {a : Act} {w : World} {K : Act → World → Prop} {Q : Exit → Act → World → Prop}
theorem build0F (w : World) : (Instr.buildSlice 100 0 #[]).run Tryz.prog w = .ok (.slice (some ⟨w.heap.size, 0, none⟩) 0 0) (w.alloc (.cells #[] 129)) := by kernel_rfl
set_option maxRecDepth 100000 in
theorem wp_0F {B : Nat} (hB : B ≤ w.heap.size) (h : ∀ w1 v, ((∃ g, v = .slice (some ⟨g, 0, none⟩) 0 0) ∧ w1.ownsRow B 129 2 v 0 []) → Below w.heap.size w w1 → K (a.put dst v) w1) :
    Oper.wp Tryz.prog ⟨dst, .buildSlice 100 0 #[], ty, pos, aft, gd⟩ a w K Q := by
  refine wp_runV (.slice (some ⟨w.heap.size, 0, none⟩) 0 0) (w.alloc (.cells #[] 129)) ?_ (h _ _ ⟨⟨_, rfl⟩, by simp, .inr ⟨w.heap.size, 0, #[], rfl, hB, heap_alloc_new w _, Nat.le_refl _, by unfold maxLen; omega, by simp, by simp⟩⟩ ((Below.refl _ _).alloc (Nat.le_refl _) _))
  unfold execOp
  simp only [List.map_toArray, List.map_nil]
  simp only [Sem.run_bind, build0F, Result.andThen_ok, Sem.run_pure]
theorem build_F (n b : ByteArray) (w : World) :
    (Instr.buildSlice 100 1 #[(0, .agg #[.string n, .string b])]).run Tryz.prog w = .ok (.slice (some ⟨w.heap.size, 0, none⟩) 1 1) (w.alloc (.cells #[.string n, .string b] 129)) := by kernel_rfl
set_option maxRecDepth 100000 in
theorem wp_oneF {x : Operand} {n : ByteArray} {xs : List Int} (hx : a.eval x = .agg #[.string n, .string (str xs)]) (h : ∀ w1 v, Vw w1 129 2 v 1 (filC [(n, xs)]) → Below w.heap.size w w1 → K (a.put dst v) w1) :
    Oper.wp Tryz.prog ⟨dst, .buildSlice 100 1 #[(0, x)], ty, pos, aft, gd⟩ a w K Q := by
  refine wp_runV (.slice (some ⟨w.heap.size, 0, none⟩) 1 1) (w.alloc (.cells #[.string n, .string (str xs)] 129)) ?_ (h _ _ ⟨by simp [filC], _, _, rfl, Nat.le_refl _, fun _ => ⟨_, 0, [.string n, .string (str xs)], rfl, Blk.made w 129 [.string n, .string (str xs)], rfl⟩⟩ ((Below.refl _ _).alloc (Nat.le_refl _) _))
  unfold execOp
  simp only [List.map_toArray, List.map_cons, List.map_nil, hx]
  simp only [Sem.run_bind, build_F, Result.andThen_ok, Sem.run_pure]
end

end Go.Proofs.YtninkkdbcgadpaaGreatDoor

/-
  How much acts of a bulk can have made.
-/
namespace Go.Proofs.YtninkkdbcgadpaaGreatDoor
open Go.RowKit
set_option linter.unusedVariables false

theorem four_mul (x y : Nat) : 4 * (x * y) ≤ (x + y) * (x + y) := by
  rcases Nat.le_total x y with h | h
  · obtain ⟨t, rfl⟩ := Nat.exists_eq_add_of_le h
    have e1 : 4 * (x * (x + t)) = 4 * (x * x) + 4 * (x * t) := by rw [Nat.mul_add, Nat.mul_add]
    have e2 : (x + (x + t)) * (x + (x + t)) = 4 * (x * x) + 4 * (x * t) + t * t := by
      have : x + (x + t) = 2 * x + t := by omega
      rw [this, Nat.add_mul, Nat.mul_add, Nat.mul_add]
      have a1 : 2 * x * (2 * x) = 4 * (x * x) := by rw [Nat.mul_assoc, Nat.mul_left_comm x 2 x, ← Nat.mul_assoc]
      have a2 : 2 * x * t = 2 * (x * t) := Nat.mul_assoc _ _ _
      have a3 : t * (2 * x) = 2 * (x * t) := by rw [Nat.mul_comm]; exact a2
      omega
    omega
  · obtain ⟨t, rfl⟩ := Nat.exists_eq_add_of_le h
    have e1 : 4 * ((y + t) * y) = 4 * (y * y) + 4 * (y * t) := by rw [Nat.add_mul, Nat.mul_add, Nat.mul_comm t y]
    have e2 : (y + t + y) * (y + t + y) = 4 * (y * y) + 4 * (y * t) + t * t := by
      have : y + t + y = 2 * y + t := by omega
      rw [this, Nat.add_mul, Nat.mul_add, Nat.mul_add]
      have a1 : 2 * y * (2 * y) = 4 * (y * y) := by rw [Nat.mul_assoc, Nat.mul_left_comm y 2 y, ← Nat.mul_assoc]
      have a2 : 2 * y * t = 2 * (y * t) := Nat.mul_assoc _ _ _
      have a3 : t * (2 * y) = 2 * (y * t) := by rw [Nat.mul_comm]; exact a2
      omega
    omega
/-- How much acts that weigh m can have made: x raw weight, f bytes of file, l leaves. -/
def Bd (m x f l : Nat) : Prop := ∃ a c, a + 4 * c ≤ m ∧ x ≤ 1 + 5 * a + c * (4 * a + 3) ∧ f ≤ 2 * a ∧ 4 * l ≤ a
theorem Bd.zero : Bd 0 1 0 0 := ⟨0, 0, by omega, by omega, by omega, by omega⟩
theorem Bd.mono {m m' x x' f f' l l' : Nat} (h : Bd m x f l) (hm : m ≤ m') (hx : x' ≤ x) (hf : f' ≤ f) (hl : l' ≤ l) : Bd m' x' f' l' := by
  obtain ⟨a, c, h1, h2, h3, h4⟩ := h
  exact ⟨a, c, by omega, by omega, by omega, by omega⟩
theorem Bd.add {m x f l : Nat} (h : Bd m x f l) (n : Nat) : Bd (m + (n + 4)) (x + 2 * (8 + n) + 1) (f + (8 + n)) (l + 1) := by
  obtain ⟨a, c, h1, h2, h3, h4⟩ := h
  have h5 : c * (4 * a + 3) ≤ c * (4 * (a + (n + 4)) + 3) := Nat.mul_le_mul_left _ (by omega)
  exact ⟨a + (n + 4), c, by omega, by omega, by omega, by omega⟩
theorem Bd.clear {m x f l f' l' : Nat} (h : Bd m x f l) (hf : f' ≤ f) (hl : l' ≤ l) : Bd (m + 4) (x + 2 * f + 3) f' l' := by
  obtain ⟨a, c, h1, h2, h3, h4⟩ := h
  have h5 : (c + 1) * (4 * a + 3) = c * (4 * a + 3) + (4 * a + 3) := Nat.succ_mul _ _
  exact ⟨a, c + 1, by omega, by rw [h5]; omega, by omega, by omega⟩
theorem Bd.out {m x f l : Nat} (h : Bd m x f l) (hm : m ≤ 1048576) : x ≤ 300000000000 ∧ f ≤ 2097152 ∧ l ≤ 262144 := by
  obtain ⟨a, c, h1, h2, h3, h4⟩ := h
  have h5 := four_mul a (4 * c)
  have h6 : (a + 4 * c) * (a + 4 * c) ≤ 1048576 * 1048576 := Nat.mul_le_mul (by omega) (by omega)
  have h7 : a * (4 * c) = 4 * (c * a) := by rw [Nat.mul_left_comm, Nat.mul_comm a c]
  have h8 : c * (4 * a + 3) = 4 * (c * a) + 3 * c := by rw [Nat.mul_add, Nat.mul_left_comm, Nat.mul_comm c 3]
  refine ⟨by omega, by omega, by omega⟩

end Go.Proofs.YtninkkdbcgadpaaGreatDoor

/-
  What the law's laid makes of its files, without any program.
-/
namespace Go.Proofs.YtninkkdbcgadpaaGreatDoor
open Go.RowKit Go.Shelf
set_option linter.unusedVariables false
set_option linter.unusedSimpArgs false

/-- How much files that weigh m have made, of which there are k. -/
structure Lw (rs : List Rw) (m k : Nat) : Prop where
  len : ∀ n, (fl (play rs) n).length ≤ m
  cnt : ∃ l, FL (play rs) l ∧ l.length ≤ k
  wt : wt rs ≤ 2 * m
theorem Lw.nil : Lw [] 0 0 := ⟨fun n => by simp [play, fl], ⟨[], FL.nil, Nat.le_refl _⟩, by simp [Go.Proofs.YtninkkdbcgadpaaGreatDoor.wt]⟩
theorem Lw.all {rs : List Rw} {m k : Nat} (h : Lw rs m k) : ∀ l, FL (play rs) l → l.length ≤ k := fun l hl => by
  obtain ⟨l0, h0, h1⟩ := h.cnt
  have := (FL.ext hl h0).2 rfl
  rw [this]
  exact h1
theorem fl_put {f : ByteArray → Option (List Int)} {l : List (ByteArray × List Int)} (h : FL f l) (n : ByteArray) (ys : List Int) : ∃ l', FL (upd f n (some ys)) l' ∧ l'.length ≤ l.length + 1 ∧ ((f n).isSome = true → l'.length ≤ l.length) := by
  obtain ⟨A, B, rfl, _, hA, h2⟩ := h.split n
  rcases h2 with ⟨hn, hB⟩ | ⟨xs, B', hn, rfl, hB⟩
  · exact ⟨_, h.put hA hB ys, by simp; omega, fun e => by rw [hn] at e; cases e⟩
  · exact ⟨_, h.set hA hB ys, by simp, fun _ => by simp⟩
theorem crS_no {rs : List Rw} {n : ByteArray} (h : crE rs n ≠ 0) : crS rs n = rs := by simp [crS, h]
theorem apS_no {s : Nat} {rs : List Rw} {n : ByteArray} {b : List Int} (h : fE rs n ≠ 0) : apS s rs n b = rs := by simp [apS, h]
theorem wt_crL (rs : List Rw) (n : ByteArray) : wt (crS rs n) ≤ wt rs + 1 := by
  unfold crS
  split
  · rw [wt_app]; simp [wt, rCr]
  · omega
theorem wt_apL {s : Nat} (hs : 1 ≤ s) (rs : List Rw) (n : ByteArray) (b : List Int) : wt (apS s rs n b) ≤ wt rs + 2 * b.length + 1 := by
  unfold apS
  split
  · rw [wt_app]
    have := expd_wt hs ⟨rAp n b, rs.length, (fl (play rs) n).length⟩
    have e : (rAp n b).b = b := rfl
    simp only [e] at this
    omega
  · omega
/-- One file more. -/
theorem Lw.add {s : Nat} (hs : 1 ≤ s) {rs : List Rw} {m k : Nat} (h : Lw rs m k) (n : ByteArray) {b : List Int} (hb : isB b) : Lw (apS s (crS rs n) n b) (m + (b.length + 3)) (k + 1) := by
  have w1 := wt_crL rs n
  have w2 := wt_apL hs (crS rs n) n b
  have hw := h.wt
  have h1 : (∀ x, (fl (play (crS rs n)) x).length ≤ m) ∧ ∃ l, FL (play (crS rs n)) l ∧ l.length ≤ k + 1 := by
    obtain ⟨l, hl, hk⟩ := h.cnt
    by_cases hc : crE rs n = 0
    · rw [play_cr hc]
      obtain ⟨l', h3, h4, _⟩ := fl_put hl n []
      refine ⟨fun x => ?_, l', h3, by omega⟩
      by_cases hx : x = n
      · subst hx
        simp [fl, upd_same]
      · have := h.len x
        simpa [fl, upd_ne _ _ hx] using this
    · rw [crS_no hc]
      exact ⟨h.len, l, hl, by omega⟩
  obtain ⟨h2, l, hl, hk⟩ := h1
  refine ⟨?_, ?_, by omega⟩
  · by_cases hf : fE (crS rs n) n = 0
    · rw [play_ap hs hb hf]
      intro x
      by_cases hx : x = n
      · subst hx
        have := h2 x
        simp only [fl, upd_same, List.length_append] at this ⊢
        simp only [Option.getD_some, List.length_append]
        omega
      · have := h2 x
        have e : fl (upd (play (crS rs n)) n (some (fl (play (crS rs n)) n ++ b))) x = fl (play (crS rs n)) x := by simp [fl, upd_ne _ _ hx]
        rw [e]
        omega
    · rw [apS_no hf]
      intro x
      have := h2 x
      omega
  · by_cases hf : fE (crS rs n) n = 0
    · rw [play_ap hs hb hf]
      obtain ⟨l', h3, _, h5⟩ := fl_put hl n (fl (play (crS rs n)) n ++ b)
      refine ⟨l', h3, ?_⟩
      have hsome : (play (crS rs n) n).isSome = true := by
        unfold fE at hf
        split at hf
        · split at hf
          · assumption
          · cases hf
        · cases hf
      have := h5 hsome
      omega
    · rw [apS_no hf]
      exact ⟨l, hl, hk⟩
/-- The whole frames are as long as the place behind the last. -/
theorem Frs.sum {xs : List Int} {L : List (Int × List Int)} {P : Nat → Nat} {E : Int} (h : Frs xs L P E) (hb : isB xs) : ∀ k, k ≤ L.length → (fmA ((L.take k).map (·.2))).length = P k := by
  intro k
  induction k with
  | zero => intro _; rw [h.p0]; rfl
  | succ k ih =>
    intro hk
    have h1 := ih (by omega)
    obtain ⟨h2, h3, _⟩ := h.step k (by omega)
    obtain ⟨q, n, hq, hle, _, _, hl, _, hR⟩ := frR_ok xs (P k : Int) hb (by rw [h3])
    rw [hR] at h3
    injection h3 with h4 h3
    injection h3 with h3 _
    have hkL : k < L.length := by omega
    have e : (L.take (k + 1)).map (·.2) = (L.take k).map (·.2) ++ [(L.getD k (0, [])).2] := by
      rw [List.take_succ_eq_append_getElem hkL, List.map_append]
      simp [List.getD, hkL]
    have e2 : ∀ a y, fmA (a ++ [y]) = fmA a ++ fmB y := fun a y => by simp [fmA]
    rw [e, e2, List.length_append, fmB_length, h1, ← h4, hl]
    omega

end Go.Proofs.YtninkkdbcgadpaaGreatDoor

/-
  The document's do: a file made.
-/
namespace Go.Proofs.YtninkkdbcgadpaaGreatDoor
open Go.RowKit
set_option linter.unusedVariables false

theorem join4 {T : Program} {c : Code} {a : Act} {w : World} {Q : Exit → Act → World → Prop} {K : Act → World → Prop} (P : Value → Value → Value → Value → World → Prop) (act : Value → Value → Value → Value → Act) (h1 : ∀ x y z u W, P x y z u W → K (act x y z u) W) (h2 : (∀ x y z u W, P x y z u W → K (act x y z u) W) → Code.wp T c (Exit.then K Q) a w) : Code.wp T c (Exit.then K Q) a w := h2 h1
section
variable {dst : Option Tmp} {ty : TypeId} {pos : String} {aft : Array Edge} {gd : Option (Nat × Bool)} {ops : Array Oper} {rest : List Oper} {a : Act} {w : World} {K : Act → World → Prop} {Q : Exit → Act → World → Prop}
theorem build_R (k : Int) (n : ByteArray) (b : Option Addr) (l c : Nat) (s : Int) (t : ByteArray) (w : World) :
    (Instr.buildSlice 101 1 #[(0, .agg (rwC k n (.slice b l c) s t).toArray)]).run Tryz.prog w = .ok (.slice (some ⟨w.heap.size, 0, none⟩) 1 1) (w.alloc (.cells (rwC k n (.slice b l c) s t).toArray 111)) := by kernel_rfl
set_option maxRecDepth 100000 in
theorem wp_oneR {x : Operand} {r : Rw} {v : Value} (hv : ∃ b l c, v = .slice b l c) (hx : a.eval x = .agg (rwC r.k r.n v r.s r.t).toArray) (h : ∀ w1 u, Vw w1 111 5 u 1 (rwsC [(r, v)]) → Below w.heap.size w w1 → K (a.put dst u) w1) :
    Oper.wp Tryz.prog ⟨dst, .buildSlice 101 1 #[(0, x)], ty, pos, aft, gd⟩ a w K Q := by
  obtain ⟨b, l, c, rfl⟩ := hv
  refine wp_runV (.slice (some ⟨w.heap.size, 0, none⟩) 1 1) (w.alloc (.cells (rwC r.k r.n (.slice b l c) r.s r.t).toArray 111)) ?_ (h _ _ ⟨by simp [rwsC, rwC], _, _, rfl, Nat.le_refl _, fun _ => ⟨_, 0, rwC r.k r.n (.slice b l c) r.s r.t, rfl, Blk.made w 111 _, rfl⟩⟩ ((Below.refl _ _).alloc (Nat.le_refl _) _))
  unfold execOp
  simp only [List.map_toArray, List.map_cons, List.map_nil, hx]
  simp only [Sem.run_bind, build_R, Result.andThen_ok, Sem.run_pure]
end
theorem rwsC_one (l : List (Rw × Value)) (h : ∀ x ∈ l, ∃ b n c, x.2 = .slice b n c) : ∀ x ∈ rwsC l, x.oneCell' = true := by
  intro x hx
  simp only [rwsC, List.mem_flatMap] at hx
  obtain ⟨y, hy, hx⟩ := hx
  obtain ⟨b, n, c, e⟩ := h y hy
  simp [rwC, e] at hx
  rcases hx with rfl | rfl | rfl | rfl | rfl <;> rfl

theorem row_on {w w' : World} {B : Nat} {e : TypeId} {q n : Nat} {v : Value} {xs : List Value} (h : w.ownsRow B e q v n xs) (hb : Below w.heap.size w w') : w'.ownsRow B e q v n xs := row_same h (fun k hk => by obtain ⟨cs, hc⟩ := row_lies h hk; exact hb.block k hc.lt)
theorem Vw.row0 {w : World} {B : Nat} {e : TypeId} {q n : Nat} {v : Value} {xs : List Value} (h : w.ownsRow B e q v n xs) : w.ownsRow 0 e q v n xs := by
  obtain ⟨h1, h2⟩ := h
  refine ⟨h1, ?_⟩
  rcases h2 with h2 | ⟨g, cap, cur, rfl, hg, r⟩
  · exact .inl h2
  · exact .inr ⟨g, cap, cur, rfl, Nat.zero_le _, r⟩
set_option maxRecDepth 100000 in
/-- Append to an empty slice of the call's own that has no room: only new memory. -/
theorem wp_app0 {T e : TypeId} {q by' : Nat} {z : Value} (R : Ro T e q by' z) {dst : Option Tmp} {ty : TypeId} {pos : String} {aft : Array Edge} {gd : Option (Nat × Bool)} {a : Act} {w : World} {K : Act → World → Prop} {Q : Exit → Act → World → Prop} {s x : Operand} {B : Nat} {v u : Value} {m : Nat} {ys : List Value} (hs : a.eval s = v) (hx : a.eval x = u) (hown : (∃ g, v = .slice (some ⟨g, 0, none⟩) 0 0) ∧ w.ownsRow B e q v 0 []) (hu : Vw w e q u m ys) (h1 : ∀ x ∈ ys, x.oneCell' = true) (hlen : m ≤ 1099511000000) (hB : B ≤ w.heap.size)
    (h : ∀ v' w', w'.ownsRow B e q v' m ys → Below w.heap.size w w' → K (a.put dst v') w') :
    Oper.wp Tryz.prog ⟨dst, .call { callee := .builtin .append, args := #[s, x], argTypes := #[T, T] }, ty, pos, aft, gd⟩ a w K Q := by
  obtain ⟨⟨g, rfl⟩, hown⟩ := hown
  obtain ⟨v', w', hr, h2, h3, h4⟩ := run_appV R hown hu h1 (by omega) hB ty
  have hbel : Below w.heap.size w w' := by
    obtain ⟨i0, hi, hz0, hz1, hz2⟩ := info_parts R.info
    obtain ⟨hl, ua, uc, rfl, hle, hat⟩ := hu
    by_cases h0 : m = 0
    · subst h0
      have e := run_append_nothing w T T ty e i0 R.und hi (some ⟨g, 0, none⟩) 0 0 (Nat.le_refl _) (.slice ua 0 uc) ⟨.inl ⟨e, R.und⟩, fun w' => by simp [Builtin.lenOf], by cases ua <;> simp [Builtin.firstCells, loadCells, loadCellsFrom], by cases ua <;> simp [Builtin.firstCells, loadCells, loadCellsFrom], by simp, by simp⟩
      rw [e] at hr
      injection hr with _ hr
      subst hr
      exact Below.refl _ _
    · obtain ⟨g', o, cs, rfl, hb, hcs⟩ := hat h0
      have hb9 := R.q9
      have e := run_append_grow w T ty e i0 z R.und hi hz0 ⟨g, 0, none⟩ 0 0 [] (by simp) (fun j v hv => by simp at hv) ⟨g', o, none⟩ m uc ys (by rw [hz1]; exact hl) (fun j x hx => by
        rw [Addr.add_lit, hb.cell]
        have : ys[j]? = cs[o + j]? := by
          rw [← hcs, List.getElem?_take, List.getElem?_drop, if_pos (by have := (List.getElem?_eq_some_iff.1 hx).1; omega)]
        rw [← this]
        exact hx) (by omega) (by omega) (by
          rw [Nat.zero_add, nextslicecap_zero (by omega), hz2]
          have : m * by' ≤ 1099511000000 * 128 := Nat.mul_le_mul hlen hb9
          omega)
      rw [e] at hr
      injection hr with _ hr
      subst hr
      exact ((Below.refl _ _).drew).alloc (by simp) _
  unfold Oper.wp execOp
  simp only [resolve, invoke, builtin, Sem.run_bind, Sem.run_pure, Result.andThen_ok, List.map_toArray, List.map_cons, List.map_nil, hs, hx, hr]
  exact h v' w' (by simpa using h2) hbel

theorem run_buildF1 {dst : Option Tmp} {ty : TypeId} {pos : String} {aft : Array Edge} {gd : Option (Nat × Bool)} {ac : Act} {w : World} {x : Operand} {n : ByteArray} (hx : ac.eval x = .string n) :
    (execOp ac.eval ⟨dst, .build 129 #[(0, x)], ty, pos, aft, gd⟩).run Tryz.prog w = .ok (.value (.agg #[.string n, .string (str [])])) w :=
  run_op (M := Instr.build 129 #[(0, .string n)]) (by simp [execOp, hx]) (by kernel_rfl)
theorem run_buildF2 {dst : Option Tmp} {ty : TypeId} {pos : String} {aft : Array Edge} {gd : Option (Nat × Bool)} {ac : Act} {w : World} {x y : Operand} {n b : ByteArray} (hx : ac.eval x = .string n) (hy : ac.eval y = .string b) :
    (execOp ac.eval ⟨dst, .build 129 #[(0, x), (1, y)], ty, pos, aft, gd⟩).run Tryz.prog w = .ok (.value (.agg #[.string n, .string b])) w :=
  run_op (M := Instr.build 129 #[(0, .string n), (1, .string b)]) (by simp [execOp, hx, hy]) (by kernel_rfl)
section
variable (r s : Nat) (rs : List Rw) (R : Rm) (n : ByteArray) (w : World) (h : RkAt w r s rs R) (hn : nmB n = true) (hwt : wt rs + 1 ≤ 1099511000000)
include h hn hwt
set_option maxRecDepth 100000 in
set_option maxHeartbeats 1000000 in
theorem doR_cr (hf : play rs n = none) (hv : BV w (.slice none 0 0) []) : Calls Tryz.prog 62 #[.pointer (some ⟨r, 0, none⟩), .agg (rwC 1 n (.slice none 0 0) 0 ByteArray.empty).toArray] w fun e w' => e = .returned (.tuple #[]) ∧ RoR w w' r s R (rs ++ [rCr n]) (.slice none 0 0) := by
  obtain ⟨A, B, hAB, hA, hlt, hB⟩ := h.fls.split n
  obtain ⟨I, hI⟩ : ∃ I, A.length = I := ⟨_, rfl⟩
  have hB2 : ∀ b ∈ B, blt n b.1 = true := by
    rcases hB with ⟨_, h2⟩ | ⟨xs, _, h1, _⟩
    · exact h2
    · rw [hf] at h1; cases h1
  have HLR : Hid (Lraw s (play rs) (rCr n)) := hide ⟨.inl ⟨n, rfl, hn, hf⟩, fun h2 => by cases h2⟩
  have HFL : Hid (FL (doR (play rs) (rCr n)) ((A ++ [(n, [])]) ++ B)) := hide (by
    have := h.fls
    rw [hAB] at this
    have := this.put hlt hB2 []
    rw [List.append_assoc]
    exact this)
  have HLN : Hid (((A ++ [(n, [])]) ++ B).length ≤ rs.length + 1) := hide (by
    have := h.few
    rw [hAB] at this
    simp at this ⊢
    omega)
  clear hB hB2 hn
  obtain ⟨fa, fc, hfe⟩ := row_slice h.fk.row
  have HH := hide h
  have HL : Hid (R.l.length ≤ 1099511000000) := hide (by have h1 := h.few; have h2 := len_wt rs; omega)
  have hrl : R.qs.length = rs.length := by rw [← h.raw]; simp
  have HRL : Hid (R.qs.length ≤ 1099511000000) := hide (by have h2 := len_wt rs; omega)
  clear hrl
  have HFE := hide hfe
  have HAB := hide hAB
  have HA := hide hA
  have HLTA := hide hlt
  have HV := hide hv
  have hfind : ∀ (W : World), FkAt W r s R.fv R.qv R.l → Calls Tryz.prog 73 #[.pointer (some ⟨r, 0, none⟩), .string n] W fun e w' => e = .returned (.tuple #[.int .i64 (I : Int), .bool false]) ∧ Below W.heap.size W w' := fun W hW => by
    have := find_any r s R.fv R.qv R.l (play rs) n W hW h.fls HL.out
    rw [← hA, hI, hf] at this
    exact this
  have HFD := hide hfind
  clear h hAB hA hlt hv hfe hfind hwt
  go_enter Tryz.func62, Tryz.ntmps62
  go_wp2_with (refine step_box (cs := rwC 1 n (.slice none 0 0) 0 ByteArray.empty) rfl rfl ?_)
  intro w1 g3 hg3 hle3 hb1
  have D1 : Hid (DsR w w1 r s R R.fv R.l (rCr n) (Value.slice none 0 0) g3) := hide (HH.out.ds hb1 hg3 hle3)
  have c1 : w1.cell? ⟨g3, 1, none⟩ = some (.string n) := D1.out.r1
  clear hg3 hle3 hb1
  go_wp2_with (go_at_call 73; refine (HFD.out _ D1.out.fk).mono ?_; rintro e w2 ⟨rfl, hb2⟩; have D2 := hide (D1.out.below hb2); have c0 : w2.cell? ⟨g3, 0, none⟩ = some (.int .i64 1) := D2.out.r0; clear c1 D1 hb2)
  clear HFD
  obtain ⟨vA, hto, hvt⟩ := (Vw.of_row D2.out.fk.row).to rFi (k := I) (by rw [HAB.out, List.length_append, hI]; omega)
  obtain ⟨vB, hfr, hvf⟩ := (Vw.of_row D2.out.fk.row).from rFi (k := I) (by rw [HAB.out, List.length_append, hI]; omega)
  have HTO := hide hto
  have HFR := hide hfr
  have HC1 : Hid (∀ z : World, Below w2.heap.size w2 z → z.cell? ⟨r, 1, none⟩ = some R.fv) := hide (fun z hz => (D2.out.below hz).c1)
  have HCN : Hid (∀ z : World, Below w2.heap.size w2 z → z.cell? ⟨g3, 1, none⟩ = some (.string n)) := hide (fun z hz => (D2.out.below hz).r1)
  have HVT : Hid (∀ z : World, Below w2.heap.size w2 z → Vw z 129 2 vA A.length (filC A)) := hide (fun z hz => by
    have := hvt z (Vw.of_row (D2.out.below hz).fk.row)
    rw [← filC_take, HAB.out, ← hI, List.take_left' rfl] at this
    exact this)
  have HVF : Hid (∀ z : World, Below w2.heap.size w2 z → Vw z 129 2 vB B.length (filC B)) := hide (fun z hz => by
    have := hvf z (Vw.of_row (D2.out.below hz).fk.row)
    rw [← filC_drop, HAB.out, ← hI, List.drop_left' rfl, List.length_append, Nat.add_sub_cancel_left] at this
    exact this)
  clear hto hfr hvt hvf
  clear c0
  refine join4 (fun x y z u W => Hid (W.ownsRow w2.heap.size 129 2 u (A ++ [(n, [])]).length (filC (A ++ [(n, [])]))) ∧ Hid (Below w2.heap.size w2 W)) ?act ?tail (fun hjoin => ?_)
  rotate_left
  rotate_left
  · refine wp_region_noPanic ?_
    refine wp_region_U (q := 13) (S := fun z : World => Below w2.heap.size w2 z) (by kernel_rfl) ?_
    have Z0 := hide ((Below.refl w2.heap.size w2).drew)
    have hHeld := Z0.out
    refine takeU 13 1 23 (.pointer (some ⟨r, 0, none⟩)) hHeld rfl rfl (by kernel_rfl) (by kernel_rfl) (by kernel_rfl) (by kernel_rfl) (by kernel_rfl) (by kernel_rfl) (fun _ _ _ h => h) (Or.inl ⟨by rfl, fun w _ => by go_simp⟩) ?_
    simp only [Act.put, List.setIfInBounds_toArray, List.set_cons_zero, List.set_cons_succ]
    refine takeU 13 2 24 (.pointer (some ⟨r, 0, none⟩)) hHeld rfl rfl (by kernel_rfl) (by kernel_rfl) (by kernel_rfl) (by kernel_rfl) (by kernel_rfl) (by kernel_rfl) (fun _ _ _ h => h) (Or.inl ⟨by rfl, fun w _ => by go_simp⟩) ?_
    simp only [Act.put, List.setIfInBounds_toArray, List.set_cons_zero, List.set_cons_succ]
    refine takeU 13 3 25 (.pointer (some ⟨r, 1, none⟩)) hHeld rfl rfl (by kernel_rfl) (by kernel_rfl) (by kernel_rfl) (by kernel_rfl) (by kernel_rfl) (by kernel_rfl) (fun _ _ _ h => h) (Or.inl ⟨by rfl, fun w _ => by go_simp⟩) ?_
    simp only [Act.put, List.setIfInBounds_toArray, List.set_cons_zero, List.set_cons_succ]
    refine takeU 13 4 26 (R.fv) hHeld rfl rfl (by kernel_rfl) (by kernel_rfl) (by kernel_rfl) (by kernel_rfl) (by kernel_rfl) (by kernel_rfl) (fun _ _ _ h => h) (Or.inl ⟨by rfl, fun w hw => by have hw' : w.cell? ⟨r, 1, none⟩ = some (R.fv) := (fun hw => HC1.out _ hw) hw; go_simp⟩) ?_
    simp only [Act.put, List.setIfInBounds_toArray, List.set_cons_zero, List.set_cons_succ]
    refine takeU 13 5 27 (.int .i64 (I : Int)) hHeld rfl rfl (by kernel_rfl) (by kernel_rfl) (by kernel_rfl) (by kernel_rfl) (by kernel_rfl) (by kernel_rfl) (fun _ _ _ h => h) (Or.inl ⟨by rfl, fun w _ => by go_simp⟩) ?_
    simp only [Act.put, List.setIfInBounds_toArray, List.set_cons_zero, List.set_cons_succ]
    refine takeU 13 6 28 (vA) hHeld rfl rfl (by kernel_rfl) (by kernel_rfl) (by kernel_rfl) (by kernel_rfl) (by kernel_rfl) (by kernel_rfl) (fun _ _ _ h => h) (Or.inl ⟨by rfl, fun w h => run_op rfl (HTO.out w)⟩) ?_
    simp only [Act.put, List.setIfInBounds_toArray, List.set_cons_zero, List.set_cons_succ]
    refine takeU 13 8 30 (.pointer (some ⟨g3, 1, none⟩)) hHeld rfl rfl (by kernel_rfl) (by kernel_rfl) (by kernel_rfl) (by kernel_rfl) (by kernel_rfl) (by kernel_rfl) (fun _ _ _ h => h) (Or.inl ⟨by rfl, fun w _ => by go_simp⟩) ?_
    simp only [Act.put, List.setIfInBounds_toArray, List.set_cons_zero, List.set_cons_succ]
    refine takeU 13 9 31 (.string n) hHeld rfl rfl (by kernel_rfl) (by kernel_rfl) (by kernel_rfl) (by kernel_rfl) (by kernel_rfl) (by kernel_rfl) (fun _ _ _ h => h) (Or.inl ⟨by rfl, fun w hw => by have hw' : w.cell? ⟨g3, 1, none⟩ = some (.string n) := (fun hw => HCN.out _ hw) hw; go_simp⟩) ?_
    simp only [Act.put, List.setIfInBounds_toArray, List.set_cons_zero, List.set_cons_succ]
    refine takeU 13 10 32 (.agg #[.string n, .string (str [])]) hHeld rfl rfl (by kernel_rfl) (by kernel_rfl) (by kernel_rfl) (by kernel_rfl) (by kernel_rfl) (by kernel_rfl) (fun _ _ _ h => h) (Or.inl ⟨by rfl, fun w h => run_buildF1 rfl⟩) ?_
    simp only [Act.put, List.setIfInBounds_toArray, List.set_cons_zero, List.set_cons_succ]
    have ONE1 : Hid (∀ x ∈ filC A, x.oneCell' = true) := hide (filC_one A)
    have ONE2 : Hid (∀ x ∈ filC [(n, [])], x.oneCell' = true) := hide (filC_one _)
    have HLA : Hid (A.length ≤ 1099511000000) := hide (by have := HL.out; rw [HAB.out, List.length_append] at this; omega)
    have HVA : Hid (∀ z : World, Below w2.heap.size w2 z → Vw z 129 2 vA A.length (filC A)) := hide (fun z hz => HVT.out z hz)
    refine wpAnyU_ready (rs := [0, 11]) (by kernel_rfl) (by simp) (AllReadyU.cons rfl (fun K hK => ?_) (AllReadyU.cons rfl (fun K hK => ?_) AllReadyU.nil))
    · rw [if_pos (by rfl)]
      refine wp_0F Z0.out.size ?_
      intro w3 g0 hv0 hb0
      have Z3 := hide (Z0.out.trans (hb0.mono Z0.out.size))
      have V0 := hide hv0
      have B0 := hide hb0
      refine hK.out _ _ (fun _ => Z3.out) ?_
      have hHeld := Z3.out
      clear hK K
      clear hv0 hb0
      simp only [Act.put]
      refine wpAnyU_ready (rs := [7, 11]) (by kernel_rfl) (by simp) (AllReadyU.cons rfl (fun K hK => ?_) (AllReadyU.cons rfl (fun K hK => ?_) AllReadyU.nil))
      · rw [if_pos (by rfl)]
        refine wp_app0 rFi rfl rfl V0.out (HVA.out _ Z3.out) ONE1.out (by have := HLA.out; omega) Z3.out.size ?_
        intro v29 w4 hv29 hb7
        have Z4 := hide (Z3.out.trans (hb7.mono Z3.out.size))
        have V29 := hide hv29
        have B7 := hide hb7
        refine hK.out _ _ (fun _ => Z4.out) ?_
        have hHeld := Z4.out
        clear hK K
        clear hv29 hb7
        simp only [Act.put]
        refine wpAnyU_ready (rs := [11]) (by kernel_rfl) (by simp) (AllReadyU.cons rfl (fun K hK => ?_) AllReadyU.nil)
        rw [if_pos (by rfl)]
        refine wp_oneF (n := n) (xs := []) rfl ?_
        intro w5 v33 hu33 hb11
        have Z5 := hide (Z4.out.trans (hb11.mono Z4.out.size))
        have U33 := hide hu33
        have B11 := hide hb11
        refine hK.out _ _ (fun _ => Z5.out) ?_
        have hHeld := Z5.out
        clear hK K
        clear hu33 hb11
        simp only [Act.put]
        have V29' := hide (row_on V29.out B11.out)
        refine wpAnyU_ready (rs := [12]) (by kernel_rfl) (by simp) (AllReadyU.cons rfl (fun K hK => ?_) AllReadyU.nil)
        rw [if_pos (by rfl)]
        refine wp_appV rFi rfl rfl V29'.out U33.out ONE2.out (by have := HLA.out; omega) Z5.out.size ?_
        intro v34 w6 hv34 hgr12 hat12
        have Z6 := hide (Z5.out.trans (grown_below hgr12 (fun k hk => row_ge V29'.out hk) Z5.out.size))
        have V34 : Hid (w6.ownsRow w2.heap.size 129 2 v34 (A ++ [(n, [])]).length (filC (A ++ [(n, [])]))) := hide (by rw [filC_app, List.length_append]; exact hv34)
        refine hK.out _ _ (fun _ => Z6.out) ?_
        have hHeld := Z6.out
        clear hK K
        clear hv34 hgr12 hat12
        simp only [Act.put]
        refine wpAnyU_ready (rs := [13]) (by kernel_rfl) (by simp) (AllReadyU.cons rfl (fun K hK => ?_) AllReadyU.nil)
        rw [if_pos (by rfl)]
        go_simp
        refine hK.out _ _ (fun h => absurd h (by decide)) ?_
        clear hK K
        refine wpAnyU_done (by kernel_rfl) ?_ _
        refine NoPanic.normal ?_
        exact hjoin g0 v29 v33 v34 w6 ⟨V34, Z6⟩
      · rw [if_pos (by rfl)]
        refine wp_oneF (n := n) (xs := []) rfl ?_
        intro w4 v33 hu33 hb11
        have Z4 := hide (Z3.out.trans (hb11.mono Z3.out.size))
        have U33 := hide hu33
        have B11 := hide hb11
        refine hK.out _ _ (fun _ => Z4.out) ?_
        have hHeld := Z4.out
        clear hK K
        clear hu33 hb11
        simp only [Act.put]
        have V0' := hide (And.intro V0.out.1 (row_on V0.out.2 B11.out))
        refine wpAnyU_ready (rs := [7]) (by kernel_rfl) (by simp) (AllReadyU.cons rfl (fun K hK => ?_) AllReadyU.nil)
        rw [if_pos (by rfl)]
        refine wp_app0 rFi rfl rfl V0'.out (HVA.out _ Z4.out) ONE1.out (by have := HLA.out; omega) Z4.out.size ?_
        intro v29 w5 hv29 hb7
        have Z5 := hide (Z4.out.trans (hb7.mono Z4.out.size))
        have V29 := hide hv29
        have B7 := hide hb7
        refine hK.out _ _ (fun _ => Z5.out) ?_
        have hHeld := Z5.out
        clear hK K
        clear hv29 hb7
        simp only [Act.put]
        have U33' := hide (U33.out.on B7.out)
        refine wpAnyU_ready (rs := [12]) (by kernel_rfl) (by simp) (AllReadyU.cons rfl (fun K hK => ?_) AllReadyU.nil)
        rw [if_pos (by rfl)]
        refine wp_appV rFi rfl rfl V29.out U33'.out ONE2.out (by have := HLA.out; omega) Z5.out.size ?_
        intro v34 w6 hv34 hgr12 hat12
        have Z6 := hide (Z5.out.trans (grown_below hgr12 (fun k hk => row_ge V29.out hk) Z5.out.size))
        have V34 : Hid (w6.ownsRow w2.heap.size 129 2 v34 (A ++ [(n, [])]).length (filC (A ++ [(n, [])]))) := hide (by rw [filC_app, List.length_append]; exact hv34)
        refine hK.out _ _ (fun _ => Z6.out) ?_
        have hHeld := Z6.out
        clear hK K
        clear hv34 hgr12 hat12
        simp only [Act.put]
        refine wpAnyU_ready (rs := [13]) (by kernel_rfl) (by simp) (AllReadyU.cons rfl (fun K hK => ?_) AllReadyU.nil)
        rw [if_pos (by rfl)]
        go_simp
        refine hK.out _ _ (fun h => absurd h (by decide)) ?_
        clear hK K
        refine wpAnyU_done (by kernel_rfl) ?_ _
        refine NoPanic.normal ?_
        exact hjoin g0 v29 v33 v34 w6 ⟨V34, Z6⟩
    · rw [if_pos (by rfl)]
      refine wp_oneF (n := n) (xs := []) rfl ?_
      intro w3 v33 hu33 hb11
      have Z3 := hide (Z0.out.trans (hb11.mono Z0.out.size))
      have U33 := hide hu33
      have B11 := hide hb11
      refine hK.out _ _ (fun _ => Z3.out) ?_
      have hHeld := Z3.out
      clear hK K
      clear hu33 hb11
      simp only [Act.put]
      refine wpAnyU_ready (rs := [0]) (by kernel_rfl) (by simp) (AllReadyU.cons rfl (fun K hK => ?_) AllReadyU.nil)
      rw [if_pos (by rfl)]
      refine wp_0F Z3.out.size ?_
      intro w4 g0 hv0 hb0
      have Z4 := hide (Z3.out.trans (hb0.mono Z3.out.size))
      have V0 := hide hv0
      have B0 := hide hb0
      refine hK.out _ _ (fun _ => Z4.out) ?_
      have hHeld := Z4.out
      clear hK K
      clear hv0 hb0
      simp only [Act.put]
      have U33' := hide (U33.out.on B0.out)
      refine wpAnyU_ready (rs := [7]) (by kernel_rfl) (by simp) (AllReadyU.cons rfl (fun K hK => ?_) AllReadyU.nil)
      rw [if_pos (by rfl)]
      refine wp_app0 rFi rfl rfl V0.out (HVA.out _ Z4.out) ONE1.out (by have := HLA.out; omega) Z4.out.size ?_
      intro v29 w5 hv29 hb7
      have Z5 := hide (Z4.out.trans (hb7.mono Z4.out.size))
      have V29 := hide hv29
      have B7 := hide hb7
      refine hK.out _ _ (fun _ => Z5.out) ?_
      have hHeld := Z5.out
      clear hK K
      clear hv29 hb7
      simp only [Act.put]
      have U33'' := hide (U33'.out.on B7.out)
      refine wpAnyU_ready (rs := [12]) (by kernel_rfl) (by simp) (AllReadyU.cons rfl (fun K hK => ?_) AllReadyU.nil)
      rw [if_pos (by rfl)]
      refine wp_appV rFi rfl rfl V29.out U33''.out ONE2.out (by have := HLA.out; omega) Z5.out.size ?_
      intro v34 w6 hv34 hgr12 hat12
      have Z6 := hide (Z5.out.trans (grown_below hgr12 (fun k hk => row_ge V29.out hk) Z5.out.size))
      have V34 : Hid (w6.ownsRow w2.heap.size 129 2 v34 (A ++ [(n, [])]).length (filC (A ++ [(n, [])]))) := hide (by rw [filC_app, List.length_append]; exact hv34)
      refine hK.out _ _ (fun _ => Z6.out) ?_
      have hHeld := Z6.out
      clear hK K
      clear hv34 hgr12 hat12
      simp only [Act.put]
      refine wpAnyU_ready (rs := [13]) (by kernel_rfl) (by simp) (AllReadyU.cons rfl (fun K hK => ?_) AllReadyU.nil)
      rw [if_pos (by rfl)]
      go_simp
      refine hK.out _ _ (fun h => absurd h (by decide)) ?_
      clear hK K
      refine wpAnyU_done (by kernel_rfl) ?_ _
      refine NoPanic.normal ?_
      exact hjoin g0 v29 v33 v34 w6 ⟨V34, Z6⟩
  intro x y z u W3 hP
  obtain ⟨V3, Z3⟩ := hP
  have D3 := hide (D2.out.below Z3.out)
  have c1 : W3.cell? ⟨r, 1, none⟩ = some R.fv := D3.out.c1
  have hfr := HFR.out
  obtain ⟨L4, hL4⟩ : ∃ L4, ((A ++ [(n, [])]) ++ B).length = L4 := ⟨_, rfl⟩
  have HL4 := hide hL4
  clear hL4
  have HLB : Hid ((A ++ [(n, [])]).length + B.length ≤ 1099511000002) := hide (by have := HL.out; rw [HAB.out, List.length_append] at this; simp; omega)
  go_upto_region 20 with (refine step_appV rFi rfl rfl rfl V3.out (HVF.out _ Z3.out) (filC_one _) (by have := HLB.out; omega) Z3.out.size ?_; intro v43 w4 hv43 hgr4 hat4; have V4 : Hid (w4.ownsRow w2.heap.size 129 2 v43 L4 (filC ((A ++ [(n, [])]) ++ B))) := hide (by rw [filC_app, ← HL4.out, List.length_append]; exact hv43); have Z4 := hide (Z3.out.trans (grown_below hgr4 (fun k hk => row_ge V3.out hk) Z3.out.size)); have D4 := hide (D2.out.below Z4.out); clear hv43 hgr4 hat4; obtain ⟨a4, c4, hve4⟩ := row_slice V4.out; subst hve4; have k1 : w4.cell? ⟨r, 1, none⟩ = some R.fv := D4.out.c1; have k2 : w4.frozen? ⟨r, 1, none⟩ = false := D4.out.fk.blk.free 1)
  have B6 := But.setCell w4 r 1 (.slice a4 L4 c4)
  have D6 : Hid (DsR w (w4.setCell ⟨r, 1, none⟩ (.slice a4 L4 c4)) r s R (.slice a4 L4 c4) ((A ++ [(n, [])]) ++ B) (rCr n) (Value.slice none 0 0) g3) := hide (by
    have hne : ∀ {k : Nat} {t : TypeId} {cs : List Value}, Blk w4 k t cs → t ≠ 103 → k ≠ r := fun hc ht => hc.apart D4.out.fk.blk ht
    refine ⟨⟨D4.out.fk.blk.set 1 _, ?_⟩, ?_, ?_, D4.out.new, D4.out.chs.thenBut B6 (.inl (.inl rfl)), fun k hk => ?_, D4.out.off⟩
    · rw [HL4.out]
      refine row_same (Vw.row0 V4.out) (fun k hk => B6.block k ?_)
      obtain ⟨cs, hc⟩ := row_lies V4.out hk
      exact hne hc (by decide)
    · refine row_same D4.out.row (fun k hk => B6.block k ?_)
      obtain ⟨cs, hc⟩ := row_lies D4.out.row hk
      exact hne hc (by decide)
    · exact D4.out.gb.but B6 (hne D4.out.gb (by decide))
    · right
      have h1 := row_ge V4.out hk
      have h2 := D2.out.chs.size
      omega)
  revert D6
  generalize w4.setCell ⟨r, 1, none⟩ (.slice a4 L4 c4) = w6
  intro D6
  clear k1 k2 c1 hfr B6 D4 Z4 V4 D3
  have c0 : w6.cell? ⟨g3, 0, none⟩ = some (.int .i64 1) := D6.out.r0
  go_wp2_with fail
  clear c0
  have HRE5 : Hid (∃ q1 q2, R.qv = .slice q1 R.qs.length q2) := hide (by obtain ⟨q1, q2, hq⟩ := row_slice HH.out.row; exact ⟨q1, q2, hq⟩)
  obtain ⟨L5, hL5⟩ : ∃ L5, (R.qs ++ [(rCr n, (Value.slice none 0 0))]).length = L5 := ⟨_, rfl⟩
  have HL5 := hide hL5
  clear hL5
  refine wp_region_noPanic ?_
  refine wp_region_U (q := 10) (S := fun z : World => z.cell? ⟨r, 2, none⟩ = some R.qv ∧ z.rangeAt g3 0 (rwC 1 n (.slice none 0 0) 0 ByteArray.empty)) (by kernel_rfl) ?_
  have Z0 := hide ((Below.refl w6.heap.size w6).drew)
  have E0 := hide (D6.out.below Z0.out)
  have HIR : Hid ((Tryz.prog.info? 111).map (·.size) = some (rwC 1 n (.slice none 0 0) 0 ByteArray.empty).length) := hide (by rw [wRw.size]; rfl)
  have gb0 : Blk w6.drew g3 111 (rwC 1 n (.slice none 0 0) 0 ByteArray.empty) := E0.out.gb
  have hHeld : w6.drew.cell? ⟨r, 2, none⟩ = some R.qv ∧ w6.drew.rangeAt g3 0 (rwC 1 n (.slice none 0 0) 0 ByteArray.empty) := ⟨E0.out.c2, gb0.range 0 _ (by simp)⟩
  clear gb0
  refine takeU 10 0 168 (.pointer (some ⟨r, 0, none⟩)) hHeld rfl rfl (by kernel_rfl) (by kernel_rfl) (by kernel_rfl) (by kernel_rfl) (by kernel_rfl) (by kernel_rfl) (fun _ _ _ h => h) (Or.inl ⟨by rfl, fun w _ => by go_simp⟩) ?_
  simp only [Act.put, List.setIfInBounds_toArray, List.set_cons_zero, List.set_cons_succ]
  refine takeU 10 1 169 (.pointer (some ⟨r, 0, none⟩)) hHeld rfl rfl (by kernel_rfl) (by kernel_rfl) (by kernel_rfl) (by kernel_rfl) (by kernel_rfl) (by kernel_rfl) (fun _ _ _ h => h) (Or.inl ⟨by rfl, fun w _ => by go_simp⟩) ?_
  simp only [Act.put, List.setIfInBounds_toArray, List.set_cons_zero, List.set_cons_succ]
  refine takeU 10 2 170 (.pointer (some ⟨r, 0, none⟩)) hHeld rfl rfl (by kernel_rfl) (by kernel_rfl) (by kernel_rfl) (by kernel_rfl) (by kernel_rfl) (by kernel_rfl) (fun _ _ _ h => h) (Or.inl ⟨by rfl, fun w _ => by go_simp⟩) ?_
  simp only [Act.put, List.setIfInBounds_toArray, List.set_cons_zero, List.set_cons_succ]
  refine takeU 10 3 171 (.pointer (some ⟨r, 2, none⟩)) hHeld rfl rfl (by kernel_rfl) (by kernel_rfl) (by kernel_rfl) (by kernel_rfl) (by kernel_rfl) (by kernel_rfl) (fun _ _ _ h => h) (Or.inl ⟨by rfl, fun w _ => by go_simp⟩) ?_
  simp only [Act.put, List.setIfInBounds_toArray, List.set_cons_zero, List.set_cons_succ]
  refine takeU 10 4 172 (R.qv) hHeld rfl rfl (by kernel_rfl) (by kernel_rfl) (by kernel_rfl) (by kernel_rfl) (by kernel_rfl) (by kernel_rfl) (fun _ _ _ h => h) (Or.inl ⟨by rfl, fun w hw => by have hw' : w.cell? ⟨r, 2, none⟩ = some (R.qv) := (fun h => h.1) hw; go_simp⟩) ?_
  simp only [Act.put, List.setIfInBounds_toArray, List.set_cons_zero, List.set_cons_succ]
  refine takeU 10 5 173 (.agg (rwC 1 n (.slice none 0 0) 0 ByteArray.empty).toArray) hHeld rfl rfl (by kernel_rfl) (by kernel_rfl) (by kernel_rfl) (by kernel_rfl) (by kernel_rfl) (by kernel_rfl) (fun _ _ _ h => h) (yieldsIf_load_mid (by rfl) _ _ rfl g3 0 rfl _ _ (fun w h => h.2) Tryz.underlying111 rfl HIR.out) ?_
  simp only [Act.put, List.setIfInBounds_toArray, List.set_cons_zero, List.set_cons_succ]
  refine wpAnyU_ready (rs := [6]) (by kernel_rfl) (by simp) (AllReadyU.cons rfl (fun K hK => ?_) AllReadyU.nil)
  rw [if_pos (by rfl)]
  refine wp_oneR (r := rCr n) (v := (Value.slice none 0 0)) ⟨_, _, _, rfl⟩ rfl ?_
  intro w4 u4 hu4 hb4
  have E4 := hide (E0.out.below hb4)
  have HU4 := hide hu4
  have gb0 : Blk w4 g3 111 (rwC 1 n (.slice none 0 0) 0 ByteArray.empty) := E4.out.gb
  have hH4 : w4.cell? ⟨r, 2, none⟩ = some R.qv ∧ w4.rangeAt g3 0 (rwC 1 n (.slice none 0 0) 0 ByteArray.empty) := ⟨E4.out.c2, gb0.range 0 _ (by simp)⟩
  clear gb0
  refine hK.out _ _ (fun _ => hH4) ?_
  have hHeld := hH4
  clear hK K
  clear hu4 hb4 hH4
  simp only [Act.put]
  refine wpAnyU_ready (rs := [7]) (by kernel_rfl) (by simp) (AllReadyU.cons rfl (fun K hK => ?_) AllReadyU.nil)
  rw [if_pos (by rfl)]
  refine wp_appV rRw rfl rfl E4.out.row HU4.out (rwsC_one _ (fun x hx => by simp at hx; subst hx; exact ⟨_, _, _, rfl⟩)) (by have := HRL.out; omega) (Nat.zero_le _) ?_
  intro qv5 w5 hrow5 hgr5 hat5
  have hne5 : ∀ k, R.qv.ownBlock = some k → k ≠ r := fun k hk e => by
    obtain ⟨cs, hc⟩ := row_lies E4.out.row hk
    exact hc.apart E4.out.fk.blk (by decide) e
  have hnf5 : ∀ k, (Value.slice a4 L4 c4).ownBlock = some k → R.qv.ownBlock ≠ some k := fun k hk e => by
    obtain ⟨cs, hc⟩ := row_lies E4.out.row e
    obtain ⟨cs', hc'⟩ := row_lies E4.out.fk.row hk
    exact hc.apart hc' (by decide) rfl
  have DK5 : Hid (Blk w5 r 103 (rkC s (Value.slice a4 L4 c4) R.qv)) := hide (E4.out.fk.blk.same (hgr5.block r E4.out.fk.blk.lt (fun e => hne5 r e.symm rfl)))
  have G5 : Hid (Blk w5 g3 111 (rwC 1 n (.slice none 0 0) 0 ByteArray.empty)) := hide (Blk.same E4.out.gb (hgr5.block g3 E4.out.gb.lt (fun e => E4.out.off e.symm)))
  have F5 : Hid (w5.ownsRow 0 129 2 (Value.slice a4 L4 c4) ((A ++ [(n, [])]) ++ B).length (filC (((A ++ [(n, [])]) ++ B)))) := hide (row_same E4.out.fk.row (fun k hk => by
    obtain ⟨cs, hc⟩ := row_lies E4.out.fk.row hk
    exact hgr5.block k hc.lt (fun e => hnf5 k hk e.symm)))
  have CH5 : Hid (Chs (R.own r) w w5) := hide (E4.out.chs.thenGrown hgr5 (fun k hk => .inl (.inr (.inr hk))))
  have LQ5 : Hid (∀ k, qv5.ownBlock = some k → R.own r k ∨ w.heap.size ≤ k) := hide (fun k hk => by
    rcases hat5 with e | e
    · exact .inl (.inr (.inr (by rw [e] at hk; exact hk)))
    · rw [e] at hk
      injection hk with hk
      have := E4.out.chs.size
      right
      omega)
  have ROW5 : Hid (w5.ownsRow 0 111 5 qv5 L5 (rwsC (R.qs ++ [(rCr n, (Value.slice none 0 0))]))) := hide (by rw [rwsC_app, ← HL5.out, List.length_append]; exact hrow5)
  obtain ⟨qa5, qc5, hqe5⟩ := row_slice ROW5.out
  subst hqe5
  have k1 : w5.cell? ⟨r, 2, none⟩ = some R.qv := by rw [DK5.out.cell]; rfl
  have k2 : w5.frozen? ⟨r, 2, none⟩ = false := DK5.out.free 2
  have hH5 : w5.cell? ⟨r, 2, none⟩ = some R.qv ∧ w5.rangeAt g3 0 (rwC 1 n (.slice none 0 0) 0 ByteArray.empty) := ⟨k1, G5.out.range 0 _ (by simp)⟩
  refine hK.out _ _ (fun _ => hH5) ?_
  have hHeld := hH5
  clear hK K
  clear hrow5 hgr5 hat5 hne5 hnf5
  simp only [Act.put]
  refine wpAnyU_ready (rs := [8]) (by kernel_rfl) (by simp) (AllReadyU.cons rfl (fun K hK => ?_) AllReadyU.nil)
  rw [if_pos (by rfl)]
  go_simp
  refine hK.out _ _ (fun _ => hH5) ?_
  have hHeld := hH5
  clear hK K
  clear hH5
  refine takeU 10 9 177 (.pointer (some ⟨r, 2, none⟩)) hHeld rfl rfl (by kernel_rfl) (by kernel_rfl) (by kernel_rfl) (by kernel_rfl) (by kernel_rfl) (by kernel_rfl) (fun _ _ _ h => h) (Or.inl ⟨by rfl, fun w _ => by go_simp⟩) ?_
  simp only [Act.put, List.setIfInBounds_toArray, List.set_cons_zero, List.set_cons_succ]
  refine wpAnyU_ready (rs := [10]) (by kernel_rfl) (by simp) (AllReadyU.cons rfl (fun K hK => ?_) AllReadyU.nil)
  rw [if_pos (by rfl)]
  go_simp
  refine hK.out _ _ (fun h => absurd h (by decide)) ?_
  clear hK K
  refine wpAnyU_done (by kernel_rfl) ?_ _
  refine NoPanic.normal ?_
  have B6 := But.setCell w5 r 2 (.slice qa5 L5 qc5)
  have FK6 : FkAt (w5.setCell ⟨r, 2, none⟩ (.slice qa5 L5 qc5)) r s (Value.slice a4 L4 c4) (.slice qa5 L5 qc5) (((A ++ [(n, [])]) ++ B)) := ⟨DK5.out.set 2 _, row_same F5.out (fun k hk => B6.block k (fun e => by
    obtain ⟨cs, hc⟩ := row_lies F5.out hk
    exact hc.apart DK5.out (by decide) e))⟩
  have hres : RoR w (w5.setCell ⟨r, 2, none⟩ (.slice qa5 L5 qc5)) r s R (rs ++ [rCr n]) (Value.slice none 0 0) := DsR.done HH.out HLR.out HV.out (by exact HFL.out) HLN.out FK6 (by rw [HL5.out]; exact row_same ROW5.out (fun k hk => B6.block k (fun e => by
    obtain ⟨cs, hc⟩ := row_lies ROW5.out hk
    exact hc.apart DK5.out (by decide) e))) (CH5.out.thenBut B6 (.inl (.inl rfl))) D6.out.lie LQ5.out rfl
  revert hres
  generalize w5.setCell ⟨r, 2, none⟩ (.slice qa5 L5 qc5) = w6
  intro hres
  have HRES := hide hres
  clear hres
  go_wp2
  go_end0
  exact ⟨rfl, HRES.out⟩
end

end Go.Proofs.YtninkkdbcgadpaaGreatDoor

/-
  The document's do: a file's bytes appended, cut.
-/
namespace Go.Proofs.YtninkkdbcgadpaaGreatDoor
open Go.RowKit
set_option linter.unusedVariables false

theorem set_app (a b : List Value) (k : Nat) (hk : a.length ≤ k) (v : Value) : (a ++ b).set k v = a ++ b.set (k - a.length) v := List.set_append_right _ _ hk
theorem filC_set (A B : List (ByteArray × List Int)) (n : ByteArray) (xs ys : List Int) : (filC (A ++ (n, xs) :: B)).set (A.length * 2 + 1) (.string (str ys)) = filC (A ++ (n, ys) :: B) := by
  rw [filC_app, filC_app, filC_cons, filC_cons, set_app _ _ _ (by rw [filC_length]; omega), filC_length]
  congr 1
  rw [show A.length * 2 + 1 - A.length * 2 = 1 by omega]
  rfl
theorem fil_set {A B : List (ByteArray × List Int)} {n : ByteArray} {xs : List Int} {cs : List Value} {m : Nat} (h : cs.take m = filC (A ++ (n, xs) :: B)) (ys : List Int) : (cs.set (A.length * 2 + 1) (.string (str ys))).take m = filC (A ++ (n, ys) :: B) := by
  rw [List.take_set, h, filC_set]
section
variable {w W W' : World} {r s : Nat} {rs : List Rw} {R : Rm} {fv : Value} {A B : List (ByteArray × List Int)} {n : ByteArray} {xs : List Int} {x : Rw} {v : Value} {g3 : Nat}
/-- A file's bytes are turned in their place. -/
theorem DsR.setF (h : DsR w W r s R fv (A ++ (n, xs) :: B) x v g3) {g cap : Nat} (hfv : fv = .slice (some ⟨g, 0, none⟩) (A ++ (n, xs) :: B).length cap) (ys : List Int) : DsR w (W.setCell ⟨g, A.length * 2 + 1, none⟩ (.string (str ys))) r s R fv (A ++ (n, ys) :: B) x v g3 := by
  subst hfv
  obtain ⟨g', cap', cs, e, hb, h3, h4⟩ := row_at h.fk.row (by simp only [List.length_append, List.length_cons]; omega)
  injection e with e1 _ e3
  injection e1 with e1
  injection e1 with e1
  subst e1 e3
  have B6 := But.setCell W g (A.length * 2 + 1) (.string (str ys))
  have hb' := hb.set (A.length * 2 + 1) (.string (str ys))
  have hlen : (A ++ (n, ys) :: B).length = (A ++ (n, xs) :: B).length := by simp
  refine ⟨⟨h.fk.blk.but B6 (h.fk.blk.apart hb (by decide)), ?_⟩, ?_, h.gb.but B6 (h.gb.apart hb (by decide)), h.new, h.chs.thenBut B6 (h.lie g rfl), h.lie, h.off⟩
  · rw [hlen]
    exact row_set h.fk.row hb hb' (by simp) (fil_set h3 ys) (by rw [filC_length, hlen])
  · refine row_same h.row (fun k hk => B6.block k ?_)
    obtain ⟨cs', hc⟩ := row_lies h.row hk
    exact hc.apart hb (by decide)
/-- The file's place and cells. -/
theorem DsR.at' (h : DsR w W r s R fv (A ++ (n, xs) :: B) x v g3) : ∃ g cap, fv = .slice (some ⟨g, 0, none⟩) (A ++ (n, xs) :: B).length cap ∧ ∀ z : World, Below W.heap.size W z → z.cell? ⟨g, A.length * 2, none⟩ = some (.string n) ∧ z.cell? ⟨g, A.length * 2 + 1, none⟩ = some (.string (str xs)) ∧ z.frozen? ⟨g, A.length * 2 + 1, none⟩ = false ∧ z.rangeAt g (A.length * 2) [.string n, .string (str xs)] := by
  obtain ⟨g, cap, cs, h1, h2, h3, h4, h5, h6, h7⟩ := h.fk.file (k := A.length) (x := (n, xs)) (by simp)
  refine ⟨g, cap, h1, fun z hz => ?_⟩
  have h2' := h2.on hz
  refine ⟨by rw [h2'.cell]; exact h6, by rw [h2'.cell]; exact h7, h2'.free _, h2'.range _ _ (by simpa using h5)⟩
end
theorem add_str (xs b : List Int) (h : xs.length + b.length ≤ 9223372036854775807) (W : World) : (binOp .add 9 (.string (str xs)) (.string (str b))).run Tryz.prog W = .ok (.string (str (xs ++ b))) W := by
  rw [← str_append]
  have h1 := str_size xs
  have h2 := str_size b
  simp [binOp, Op.stringOp, h1, h2]
  omega
theorem cut_str (xs : List Int) (k : Int) (h0 : 0 ≤ k) (h1 : k ≤ xs.length) (W : World) : (Instr.slice 9 (.string (str xs)) none (some (.int .i64 k)) none).run Tryz.prog W = .ok (.string (str (xs.take k.toNat))) W := by
  rw [run_slice_string_h W 9 (str xs) Tryz.underlying9 .i64 k h0 (by rw [str_size]; exact h1), str_take]

section
variable (r s : Nat) (rs : List Rw) (R : Rm) (n : ByteArray) (w : World) (h : RkAt w r s rs R) (hn : nmB n = true)
include h hn
set_option maxRecDepth 100000 in
set_option maxHeartbeats 1000000 in
theorem doR_ap (v : Value) (b xs : List Int) (hf : play rs n = some xs) (hb : b ≠ []) (hB' : isB b) (hfit : xs.length % s + b.length ≤ s) (hwt : wt rs + b.length + 1 ≤ 1099511000000) (hv : BV w v b) : Calls Tryz.prog 62 #[.pointer (some ⟨r, 0, none⟩), .agg (rwC 2 n v 0 ByteArray.empty).toArray] w fun e w' => e = .returned (.tuple #[]) ∧ RoR w w' r s R (rs ++ [rAp n b]) v := by
  obtain ⟨A, B0, hAB0, hA, hlt, hB⟩ := h.fls.split n
  obtain ⟨I, hI⟩ : ∃ I, A.length = I := ⟨_, rfl⟩
  obtain ⟨B, hBB, hB2⟩ : ∃ B, B0 = (n, xs) :: B ∧ ∀ b ∈ B, blt n b.1 = true := by
    rcases hB with ⟨h1, _⟩ | ⟨ys, B', h1, h2, h3⟩
    · rw [hf] at h1; cases h1
    · rw [hf] at h1
      injection h1 with h1
      subst h1
      exact ⟨B', h2, h3⟩
  subst hBB
  have hAB := hAB0
  have hxs : fl (play rs) n = xs := by simp [fl, hf]
  have HLR : Hid (Lraw s (play rs) (rAp n b)) := hide ⟨.inr (.inl ⟨n, b, xs, rfl, hn, hf, hb, hB'⟩), fun _ => by show (fl (play rs) n).length % s + b.length ≤ s; rw [hxs]; exact hfit⟩
  have HFL : Hid (FL (doR (play rs) (rAp n b)) (A ++ (n, xs ++ b) :: B)) := hide (by
    have := h.fls
    rw [hAB] at this
    have := this.set hlt hB2 (xs ++ b)
    rw [do_ap, hxs]
    exact this)
  have HLN : Hid ((A ++ (n, xs ++ b) :: B).length ≤ rs.length + 1) := hide (by
    have := h.few
    rw [hAB] at this
    simp at this ⊢
    omega)
  have HADD : Hid (∀ z : World, (binOp .add 9 (.string (str xs)) (.string (str b))).run Tryz.prog z = .ok (.string (str (xs ++ b))) z) := hide (fun z => add_str xs b (by have h1 := play_wt rs n; rw [hxs] at h1; omega) z)
  obtain ⟨va, vc, hve, hvs⟩ := hv.sl
  have HVE := hide hve
  clear hB hB2 hn hxs hve hvs hb hB' hfit hAB0
  obtain ⟨fa, fc, hfe⟩ := row_slice h.fk.row
  have HH := hide h
  have HL : Hid (R.l.length ≤ 1099511000000) := hide (by have h1 := h.few; have h2 := len_wt rs; omega)
  have hrl : R.qs.length = rs.length := by rw [← h.raw]; simp
  have HRL : Hid (R.qs.length ≤ 1099511000000) := hide (by have h2 := len_wt rs; omega)
  clear hrl
  have HFE := hide hfe
  have HAB := hide hAB
  have HA := hide hA
  have HLTA := hide hlt
  have HV := hide hv
  have hfind : ∀ (W : World), FkAt W r s R.fv R.qv R.l → Calls Tryz.prog 73 #[.pointer (some ⟨r, 0, none⟩), .string n] W fun e w' => e = .returned (.tuple #[.int .i64 (I : Int), .bool true]) ∧ Below W.heap.size W w' := fun W hW => by
    have := find_any r s R.fv R.qv R.l (play rs) n W hW h.fls HL.out
    rw [← hA, hI, hf] at this
    exact this
  have HFD := hide hfind
  clear h hAB hA hlt hv hfe hfind hwt
  go_enter Tryz.func62, Tryz.ntmps62
  go_wp2_with (refine step_box (cs := rwC 2 n v 0 ByteArray.empty) rfl rfl ?_)
  intro w1 g3 hg3 hle3 hb1
  have D1 : Hid (DsR w w1 r s R R.fv R.l (rAp n b) v g3) := hide (HH.out.ds hb1 hg3 hle3)
  have c1 : w1.cell? ⟨g3, 1, none⟩ = some (.string n) := D1.out.r1
  clear hg3 hle3 hb1
  go_wp2_with (go_at_call 73; refine (HFD.out _ D1.out.fk).mono ?_; rintro e w2 ⟨rfl, hb2⟩; have D2 := hide (D1.out.below hb2); have c0 : w2.cell? ⟨g3, 0, none⟩ = some (.int .i64 2) := D2.out.r0; clear c1 D1 hb2)
  clear HFD
  have D2' := D2
  rw [HAB.out] at D2'
  obtain ⟨g, cap, hfv, hcells⟩ := D2'.out.at'
  have HFV := hide hfv
  obtain ⟨L, hL⟩ : ∃ L, (A ++ (n, xs) :: B).length = L := ⟨_, rfl⟩
  rw [hL] at hfv
  have HIX : Hid (∀ z : World, (Instr.indexAt 100 (.slice (some ⟨g, 0, none⟩) L cap) (.int .i64 (I : Int))).run Tryz.prog z = .ok (.pointer (some ⟨g, I * 2, none⟩)) z) := hide (fun z => vw_at rFi g L cap I (by rw [← hL, ← hI]; simp) z)
  have HC1 : Hid (∀ z : World, Below w2.heap.size w2 z → z.cell? ⟨r, 1, none⟩ = some (.slice (some ⟨g, 0, none⟩) L cap)) := hide (fun z hz => by rw [← hfv]; exact (D2.out.below hz).c1)
  have HCB : Hid (∀ z : World, Below w2.heap.size w2 z → z.cell? ⟨g, I * 2 + 1, none⟩ = some (.string (str xs))) := hide (fun z hz => by rw [← hI]; exact (hcells z hz).2.1)
  have HFZ : Hid (∀ z : World, Below w2.heap.size w2 z → z.frozen? ⟨g, I * 2 + 1, none⟩ = false) := hide (fun z hz => by rw [← hI]; exact (hcells z hz).2.2.1)
  have HRG : Hid (∀ z : World, Below w2.heap.size w2 z → z.rangeAt g (I * 2) [.string n, .string (str xs)]) := hide (fun z hz => by rw [← hI]; exact (hcells z hz).2.2.2)
  have HLL := hide hL
  have HII := hide hI
  clear hfv hcells hL c0 hI
  have HCV : Hid (∀ z : World, Below w2.heap.size w2 z → z.cell? ⟨g3, 2, none⟩ = some v) := hide (fun z hz => (D2.out.below hz).r2)
  have HST : Hid (∀ z : World, Below w2.heap.size w2 z → (convert 39 9 v).run Tryz.prog z = .ok (.string (str b)) z) := hide (fun z hz => by
    have hbv : BV z v b := HV.out.same (fun k hk => by
      obtain ⟨cs, hc⟩ := HV.out.lies hk
      exact (D2.out.below hz).chs.block k hc.lt (HH.out.off hc))
    obtain ⟨a1, c1, e1, hs1⟩ := hbv.sl
    rw [e1]
    exact toStr hs1)
  refine wp_region_noPanic ?_
  refine wp_region_U (q := 19) (S := fun z : World => Below w2.heap.size w2 z) (by kernel_rfl) ?_
  have Z0 := hide ((Below.refl w2.heap.size w2).drew)
  have hHeld := Z0.out
  refine takeU 19 0 48 (.pointer (some ⟨r, 0, none⟩)) hHeld rfl rfl (by kernel_rfl) (by kernel_rfl) (by kernel_rfl) (by kernel_rfl) (by kernel_rfl) (by kernel_rfl) (fun _ _ _ h => h) (Or.inl ⟨by rfl, fun w _ => by go_simp⟩) ?_
  simp only [Act.put, List.setIfInBounds_toArray, List.set_cons_zero, List.set_cons_succ]
  refine takeU 19 1 49 (.pointer (some ⟨r, 0, none⟩)) hHeld rfl rfl (by kernel_rfl) (by kernel_rfl) (by kernel_rfl) (by kernel_rfl) (by kernel_rfl) (by kernel_rfl) (fun _ _ _ h => h) (Or.inl ⟨by rfl, fun w _ => by go_simp⟩) ?_
  simp only [Act.put, List.setIfInBounds_toArray, List.set_cons_zero, List.set_cons_succ]
  refine takeU 19 2 50 (.pointer (some ⟨r, 1, none⟩)) hHeld rfl rfl (by kernel_rfl) (by kernel_rfl) (by kernel_rfl) (by kernel_rfl) (by kernel_rfl) (by kernel_rfl) (fun _ _ _ h => h) (Or.inl ⟨by rfl, fun w _ => by go_simp⟩) ?_
  simp only [Act.put, List.setIfInBounds_toArray, List.set_cons_zero, List.set_cons_succ]
  refine takeU 19 3 51 (.slice (some ⟨g, 0, none⟩) L cap) hHeld rfl rfl (by kernel_rfl) (by kernel_rfl) (by kernel_rfl) (by kernel_rfl) (by kernel_rfl) (by kernel_rfl) (fun _ _ _ h => h) (Or.inl ⟨by rfl, fun w hw => by have hw' : w.cell? ⟨r, 1, none⟩ = some (.slice (some ⟨g, 0, none⟩) L cap) := (fun hw => HC1.out _ hw) hw; go_simp⟩) ?_
  simp only [Act.put, List.setIfInBounds_toArray, List.set_cons_zero, List.set_cons_succ]
  refine takeU 19 4 52 (.int .i64 (I : Int)) hHeld rfl rfl (by kernel_rfl) (by kernel_rfl) (by kernel_rfl) (by kernel_rfl) (by kernel_rfl) (by kernel_rfl) (fun _ _ _ h => h) (Or.inl ⟨by rfl, fun w _ => by go_simp⟩) ?_
  simp only [Act.put, List.setIfInBounds_toArray, List.set_cons_zero, List.set_cons_succ]
  refine takeU 19 5 53 (.pointer (some ⟨r, 0, none⟩)) hHeld rfl rfl (by kernel_rfl) (by kernel_rfl) (by kernel_rfl) (by kernel_rfl) (by kernel_rfl) (by kernel_rfl) (fun _ _ _ h => h) (Or.inl ⟨by rfl, fun w _ => by go_simp⟩) ?_
  simp only [Act.put, List.setIfInBounds_toArray, List.set_cons_zero, List.set_cons_succ]
  refine takeU 19 6 54 (.pointer (some ⟨r, 0, none⟩)) hHeld rfl rfl (by kernel_rfl) (by kernel_rfl) (by kernel_rfl) (by kernel_rfl) (by kernel_rfl) (by kernel_rfl) (fun _ _ _ h => h) (Or.inl ⟨by rfl, fun w _ => by go_simp⟩) ?_
  simp only [Act.put, List.setIfInBounds_toArray, List.set_cons_zero, List.set_cons_succ]
  refine takeU 19 7 55 (.pointer (some ⟨r, 1, none⟩)) hHeld rfl rfl (by kernel_rfl) (by kernel_rfl) (by kernel_rfl) (by kernel_rfl) (by kernel_rfl) (by kernel_rfl) (fun _ _ _ h => h) (Or.inl ⟨by rfl, fun w _ => by go_simp⟩) ?_
  simp only [Act.put, List.setIfInBounds_toArray, List.set_cons_zero, List.set_cons_succ]
  refine takeU 19 8 56 (.slice (some ⟨g, 0, none⟩) L cap) hHeld rfl rfl (by kernel_rfl) (by kernel_rfl) (by kernel_rfl) (by kernel_rfl) (by kernel_rfl) (by kernel_rfl) (fun _ _ _ h => h) (Or.inl ⟨by rfl, fun w hw => by have hw' : w.cell? ⟨r, 1, none⟩ = some (.slice (some ⟨g, 0, none⟩) L cap) := (fun hw => HC1.out _ hw) hw; go_simp⟩) ?_
  simp only [Act.put, List.setIfInBounds_toArray, List.set_cons_zero, List.set_cons_succ]
  refine takeU 19 9 57 (.int .i64 (I : Int)) hHeld rfl rfl (by kernel_rfl) (by kernel_rfl) (by kernel_rfl) (by kernel_rfl) (by kernel_rfl) (by kernel_rfl) (fun _ _ _ h => h) (Or.inl ⟨by rfl, fun w _ => by go_simp⟩) ?_
  simp only [Act.put, List.setIfInBounds_toArray, List.set_cons_zero, List.set_cons_succ]
  refine takeU 19 10 58 (.pointer (some ⟨g, I * 2, none⟩)) hHeld rfl rfl (by kernel_rfl) (by kernel_rfl) (by kernel_rfl) (by kernel_rfl) (by kernel_rfl) (by kernel_rfl) (fun _ _ _ h => h) (Or.inl ⟨by rfl, fun w h => run_op rfl (HIX.out w)⟩) ?_
  simp only [Act.put, List.setIfInBounds_toArray, List.set_cons_zero, List.set_cons_succ]
  refine takeU 19 11 59 (.pointer (some ⟨g, I * 2 + 1, none⟩)) hHeld rfl rfl (by kernel_rfl) (by kernel_rfl) (by kernel_rfl) (by kernel_rfl) (by kernel_rfl) (by kernel_rfl) (fun _ _ _ h => h) (Or.inl ⟨by rfl, fun w _ => by go_simp⟩) ?_
  simp only [Act.put, List.setIfInBounds_toArray, List.set_cons_zero, List.set_cons_succ]
  refine takeU 19 12 60 (.string (str xs)) hHeld rfl rfl (by kernel_rfl) (by kernel_rfl) (by kernel_rfl) (by kernel_rfl) (by kernel_rfl) (by kernel_rfl) (fun _ _ _ h => h) (Or.inl ⟨by rfl, fun w hw => by have hw' : w.cell? ⟨g, (I * 2 + 1), none⟩ = some (.string (str xs)) := (fun hw => HCB.out _ hw) hw; go_simp⟩) ?_
  simp only [Act.put, List.setIfInBounds_toArray, List.set_cons_zero, List.set_cons_succ]
  refine takeU 19 13 61 (.pointer (some ⟨g3, 2, none⟩)) hHeld rfl rfl (by kernel_rfl) (by kernel_rfl) (by kernel_rfl) (by kernel_rfl) (by kernel_rfl) (by kernel_rfl) (fun _ _ _ h => h) (Or.inl ⟨by rfl, fun w _ => by go_simp⟩) ?_
  simp only [Act.put, List.setIfInBounds_toArray, List.set_cons_zero, List.set_cons_succ]
  refine takeU 19 14 62 (v) hHeld rfl rfl (by kernel_rfl) (by kernel_rfl) (by kernel_rfl) (by kernel_rfl) (by kernel_rfl) (by kernel_rfl) (fun _ _ _ h => h) (Or.inl ⟨by rfl, fun w hw => by have hw' : w.cell? ⟨g3, 2, none⟩ = some (v) := (fun hw => HCV.out _ hw) hw; go_simp⟩) ?_
  simp only [Act.put, List.setIfInBounds_toArray, List.set_cons_zero, List.set_cons_succ]
  refine takeU 19 15 63 (.string (str b)) hHeld rfl rfl (by kernel_rfl) (by kernel_rfl) (by kernel_rfl) (by kernel_rfl) (by kernel_rfl) (by kernel_rfl) (fun _ _ _ h => h) (Or.inl ⟨by rfl, fun w h => run_op rfl (HST.out w h)⟩) ?_
  simp only [Act.put, List.setIfInBounds_toArray, List.set_cons_zero, List.set_cons_succ]
  refine takeU 19 16 64 (.string (str (xs ++ b))) hHeld rfl rfl (by kernel_rfl) (by kernel_rfl) (by kernel_rfl) (by kernel_rfl) (by kernel_rfl) (by kernel_rfl) (fun _ _ _ h => h) (Or.inl ⟨by rfl, fun w h => run_op rfl (HADD.out w)⟩) ?_
  simp only [Act.put, List.setIfInBounds_toArray, List.set_cons_zero, List.set_cons_succ]
  have hix := HIX.out
  refine wpAnyU_ready (rs := [17]) (by kernel_rfl) (by simp) (AllReadyU.cons rfl (fun K hK => ?_) AllReadyU.nil)
  rw [if_pos (by rfl)]
  go_simp
  refine hK.out _ _ (fun _ => Z0.out) ?_
  have hHeld := Z0.out
  clear hK K
  refine takeU 19 18 66 (.pointer (some ⟨g, I * 2 + 1, none⟩)) hHeld rfl rfl (by kernel_rfl) (by kernel_rfl) (by kernel_rfl) (by kernel_rfl) (by kernel_rfl) (by kernel_rfl) (fun _ _ _ h => h) (Or.inl ⟨by rfl, fun w _ => by go_simp⟩) ?_
  simp only [Act.put, List.setIfInBounds_toArray, List.set_cons_zero, List.set_cons_succ]
  have k1 := HCB.out _ Z0.out
  have k2 := HFZ.out _ Z0.out
  refine wpAnyU_ready (rs := [19]) (by kernel_rfl) (by simp) (AllReadyU.cons rfl (fun K hK => ?_) AllReadyU.nil)
  rw [if_pos (by rfl)]
  go_simp
  refine hK.out _ _ (fun h => absurd h (by decide)) ?_
  clear hK K
  refine wpAnyU_done (by kernel_rfl) ?_ _
  refine NoPanic.normal ?_
  have D6 : Hid (DsR w ((w2.setCell ⟨g, I * 2 + 1, none⟩ (.string (str (xs ++ b)))).drew) r s R R.fv (A ++ (n, xs ++ b) :: B) (rAp n b) v g3) := hide (by
    have := D2'.out.setF HFV.out (xs ++ b)
    rw [HII.out] at this
    exact this.below ((Below.refl _ _).drew))
  revert D6
  generalize (w2.setCell ⟨g, I * 2 + 1, none⟩ (.string (str (xs ++ b)))).drew = w6
  intro D6
  clear k1 k2 hix hHeld
  go_wp2_with fail
  have HRE5 : Hid (∃ q1 q2, R.qv = .slice q1 R.qs.length q2) := hide (by obtain ⟨q1, q2, hq⟩ := row_slice HH.out.row; exact ⟨q1, q2, hq⟩)
  obtain ⟨L5, hL5⟩ : ∃ L5, (R.qs ++ [(rAp n b, v)]).length = L5 := ⟨_, rfl⟩
  have HL5 := hide hL5
  clear hL5
  refine wp_region_noPanic ?_
  refine wp_region_U (q := 10) (S := fun z : World => z.cell? ⟨r, 2, none⟩ = some R.qv ∧ z.rangeAt g3 0 (rwC 2 n v 0 ByteArray.empty)) (by kernel_rfl) ?_
  have Z0 := hide ((Below.refl w6.heap.size w6).drew)
  have E0 := hide (D6.out.below Z0.out)
  have HIR : Hid ((Tryz.prog.info? 111).map (·.size) = some (rwC 2 n v 0 ByteArray.empty).length) := hide (by rw [wRw.size]; rfl)
  have gb0 : Blk w6.drew g3 111 (rwC 2 n v 0 ByteArray.empty) := E0.out.gb
  have hHeld : w6.drew.cell? ⟨r, 2, none⟩ = some R.qv ∧ w6.drew.rangeAt g3 0 (rwC 2 n v 0 ByteArray.empty) := ⟨E0.out.c2, gb0.range 0 _ (by simp)⟩
  clear gb0
  refine takeU 10 0 168 (.pointer (some ⟨r, 0, none⟩)) hHeld rfl rfl (by kernel_rfl) (by kernel_rfl) (by kernel_rfl) (by kernel_rfl) (by kernel_rfl) (by kernel_rfl) (fun _ _ _ h => h) (Or.inl ⟨by rfl, fun w _ => by go_simp⟩) ?_
  simp only [Act.put, List.setIfInBounds_toArray, List.set_cons_zero, List.set_cons_succ]
  refine takeU 10 1 169 (.pointer (some ⟨r, 0, none⟩)) hHeld rfl rfl (by kernel_rfl) (by kernel_rfl) (by kernel_rfl) (by kernel_rfl) (by kernel_rfl) (by kernel_rfl) (fun _ _ _ h => h) (Or.inl ⟨by rfl, fun w _ => by go_simp⟩) ?_
  simp only [Act.put, List.setIfInBounds_toArray, List.set_cons_zero, List.set_cons_succ]
  refine takeU 10 2 170 (.pointer (some ⟨r, 0, none⟩)) hHeld rfl rfl (by kernel_rfl) (by kernel_rfl) (by kernel_rfl) (by kernel_rfl) (by kernel_rfl) (by kernel_rfl) (fun _ _ _ h => h) (Or.inl ⟨by rfl, fun w _ => by go_simp⟩) ?_
  simp only [Act.put, List.setIfInBounds_toArray, List.set_cons_zero, List.set_cons_succ]
  refine takeU 10 3 171 (.pointer (some ⟨r, 2, none⟩)) hHeld rfl rfl (by kernel_rfl) (by kernel_rfl) (by kernel_rfl) (by kernel_rfl) (by kernel_rfl) (by kernel_rfl) (fun _ _ _ h => h) (Or.inl ⟨by rfl, fun w _ => by go_simp⟩) ?_
  simp only [Act.put, List.setIfInBounds_toArray, List.set_cons_zero, List.set_cons_succ]
  refine takeU 10 4 172 (R.qv) hHeld rfl rfl (by kernel_rfl) (by kernel_rfl) (by kernel_rfl) (by kernel_rfl) (by kernel_rfl) (by kernel_rfl) (fun _ _ _ h => h) (Or.inl ⟨by rfl, fun w hw => by have hw' : w.cell? ⟨r, 2, none⟩ = some (R.qv) := (fun h => h.1) hw; go_simp⟩) ?_
  simp only [Act.put, List.setIfInBounds_toArray, List.set_cons_zero, List.set_cons_succ]
  refine takeU 10 5 173 (.agg (rwC 2 n v 0 ByteArray.empty).toArray) hHeld rfl rfl (by kernel_rfl) (by kernel_rfl) (by kernel_rfl) (by kernel_rfl) (by kernel_rfl) (by kernel_rfl) (fun _ _ _ h => h) (yieldsIf_load_mid (by rfl) _ _ rfl g3 0 rfl _ _ (fun w h => h.2) Tryz.underlying111 rfl HIR.out) ?_
  simp only [Act.put, List.setIfInBounds_toArray, List.set_cons_zero, List.set_cons_succ]
  refine wpAnyU_ready (rs := [6]) (by kernel_rfl) (by simp) (AllReadyU.cons rfl (fun K hK => ?_) AllReadyU.nil)
  rw [if_pos (by rfl)]
  refine wp_oneR (r := rAp n b) (v := v) ⟨_, _, _, HVE.out⟩ rfl ?_
  intro w4 u4 hu4 hb4
  have E4 := hide (E0.out.below hb4)
  have HU4 := hide hu4
  have gb0 : Blk w4 g3 111 (rwC 2 n v 0 ByteArray.empty) := E4.out.gb
  have hH4 : w4.cell? ⟨r, 2, none⟩ = some R.qv ∧ w4.rangeAt g3 0 (rwC 2 n v 0 ByteArray.empty) := ⟨E4.out.c2, gb0.range 0 _ (by simp)⟩
  clear gb0
  refine hK.out _ _ (fun _ => hH4) ?_
  have hHeld := hH4
  clear hK K
  clear hu4 hb4 hH4
  simp only [Act.put]
  refine wpAnyU_ready (rs := [7]) (by kernel_rfl) (by simp) (AllReadyU.cons rfl (fun K hK => ?_) AllReadyU.nil)
  rw [if_pos (by rfl)]
  refine wp_appV rRw rfl rfl E4.out.row HU4.out (rwsC_one _ (fun x hx => by simp at hx; subst hx; exact ⟨_, _, _, HVE.out⟩)) (by have := HRL.out; omega) (Nat.zero_le _) ?_
  intro qv5 w5 hrow5 hgr5 hat5
  have hne5 : ∀ k, R.qv.ownBlock = some k → k ≠ r := fun k hk e => by
    obtain ⟨cs, hc⟩ := row_lies E4.out.row hk
    exact hc.apart E4.out.fk.blk (by decide) e
  have hnf5 : ∀ k, R.fv.ownBlock = some k → R.qv.ownBlock ≠ some k := fun k hk e => by
    obtain ⟨cs, hc⟩ := row_lies E4.out.row e
    obtain ⟨cs', hc'⟩ := row_lies E4.out.fk.row hk
    exact hc.apart hc' (by decide) rfl
  have DK5 : Hid (Blk w5 r 103 (rkC s R.fv R.qv)) := hide (E4.out.fk.blk.same (hgr5.block r E4.out.fk.blk.lt (fun e => hne5 r e.symm rfl)))
  have G5 : Hid (Blk w5 g3 111 (rwC 2 n v 0 ByteArray.empty)) := hide (Blk.same E4.out.gb (hgr5.block g3 E4.out.gb.lt (fun e => E4.out.off e.symm)))
  have F5 : Hid (w5.ownsRow 0 129 2 R.fv (A ++ (n, xs ++ b) :: B).length (filC ((A ++ (n, xs ++ b) :: B)))) := hide (row_same E4.out.fk.row (fun k hk => by
    obtain ⟨cs, hc⟩ := row_lies E4.out.fk.row hk
    exact hgr5.block k hc.lt (fun e => hnf5 k hk e.symm)))
  have CH5 : Hid (Chs (R.own r) w w5) := hide (E4.out.chs.thenGrown hgr5 (fun k hk => .inl (.inr (.inr hk))))
  have LQ5 : Hid (∀ k, qv5.ownBlock = some k → R.own r k ∨ w.heap.size ≤ k) := hide (fun k hk => by
    rcases hat5 with e | e
    · exact .inl (.inr (.inr (by rw [e] at hk; exact hk)))
    · rw [e] at hk
      injection hk with hk
      have := E4.out.chs.size
      right
      omega)
  have ROW5 : Hid (w5.ownsRow 0 111 5 qv5 L5 (rwsC (R.qs ++ [(rAp n b, v)]))) := hide (by rw [rwsC_app, ← HL5.out, List.length_append]; exact hrow5)
  obtain ⟨qa5, qc5, hqe5⟩ := row_slice ROW5.out
  subst hqe5
  have k1 : w5.cell? ⟨r, 2, none⟩ = some R.qv := by rw [DK5.out.cell]; rfl
  have k2 : w5.frozen? ⟨r, 2, none⟩ = false := DK5.out.free 2
  have hH5 : w5.cell? ⟨r, 2, none⟩ = some R.qv ∧ w5.rangeAt g3 0 (rwC 2 n v 0 ByteArray.empty) := ⟨k1, G5.out.range 0 _ (by simp)⟩
  refine hK.out _ _ (fun _ => hH5) ?_
  have hHeld := hH5
  clear hK K
  clear hrow5 hgr5 hat5 hne5 hnf5
  simp only [Act.put]
  refine wpAnyU_ready (rs := [8]) (by kernel_rfl) (by simp) (AllReadyU.cons rfl (fun K hK => ?_) AllReadyU.nil)
  rw [if_pos (by rfl)]
  go_simp
  refine hK.out _ _ (fun _ => hH5) ?_
  have hHeld := hH5
  clear hK K
  clear hH5
  refine takeU 10 9 177 (.pointer (some ⟨r, 2, none⟩)) hHeld rfl rfl (by kernel_rfl) (by kernel_rfl) (by kernel_rfl) (by kernel_rfl) (by kernel_rfl) (by kernel_rfl) (fun _ _ _ h => h) (Or.inl ⟨by rfl, fun w _ => by go_simp⟩) ?_
  simp only [Act.put, List.setIfInBounds_toArray, List.set_cons_zero, List.set_cons_succ]
  refine wpAnyU_ready (rs := [10]) (by kernel_rfl) (by simp) (AllReadyU.cons rfl (fun K hK => ?_) AllReadyU.nil)
  rw [if_pos (by rfl)]
  go_simp
  refine hK.out _ _ (fun h => absurd h (by decide)) ?_
  clear hK K
  refine wpAnyU_done (by kernel_rfl) ?_ _
  refine NoPanic.normal ?_
  have B6 := But.setCell w5 r 2 (.slice qa5 L5 qc5)
  have FK6 : FkAt (w5.setCell ⟨r, 2, none⟩ (.slice qa5 L5 qc5)) r s R.fv (.slice qa5 L5 qc5) ((A ++ (n, xs ++ b) :: B)) := ⟨DK5.out.set 2 _, row_same F5.out (fun k hk => B6.block k (fun e => by
    obtain ⟨cs, hc⟩ := row_lies F5.out hk
    exact hc.apart DK5.out (by decide) e))⟩
  have hres : RoR w (w5.setCell ⟨r, 2, none⟩ (.slice qa5 L5 qc5)) r s R (rs ++ [rAp n b]) v := DsR.done HH.out HLR.out HV.out (by exact HFL.out) HLN.out FK6 (by rw [HL5.out]; exact row_same ROW5.out (fun k hk => B6.block k (fun e => by
    obtain ⟨cs, hc⟩ := row_lies ROW5.out hk
    exact hc.apart DK5.out (by decide) e))) (CH5.out.thenBut B6 (.inl (.inl rfl))) D6.out.lie LQ5.out rfl
  revert hres
  generalize w5.setCell ⟨r, 2, none⟩ (.slice qa5 L5 qc5) = w6
  intro hres
  have HRES := hide hres
  clear hres
  go_wp2
  go_end0
  exact ⟨rfl, HRES.out⟩
set_option maxRecDepth 100000 in
set_option maxHeartbeats 1000000 in
theorem doR_cu (k : Int) (xs : List Int) (hf : play rs n = some xs) (hk0 : 0 ≤ k) (hkl : k < xs.length) (hwt : wt rs + 1 ≤ 1099511000000) (hv : BV w (.slice none 0 0) []) : Calls Tryz.prog 62 #[.pointer (some ⟨r, 0, none⟩), .agg (rwC 3 n (.slice none 0 0) k ByteArray.empty).toArray] w fun e w' => e = .returned (.tuple #[]) ∧ RoR w w' r s R (rs ++ [rCu n k]) (.slice none 0 0) := by
  obtain ⟨A, B0, hAB0, hA, hlt, hB⟩ := h.fls.split n
  obtain ⟨I, hI⟩ : ∃ I, A.length = I := ⟨_, rfl⟩
  obtain ⟨B, hBB, hB2⟩ : ∃ B, B0 = (n, xs) :: B ∧ ∀ b ∈ B, blt n b.1 = true := by
    rcases hB with ⟨h1, _⟩ | ⟨ys, B', h1, h2, h3⟩
    · rw [hf] at h1; cases h1
    · rw [hf] at h1
      injection h1 with h1
      subst h1
      exact ⟨B', h2, h3⟩
  subst hBB
  have hAB := hAB0
  have hxs : fl (play rs) n = xs := by simp [fl, hf]
  have HLR : Hid (Lraw s (play rs) (rCu n k)) := hide ⟨.inr (.inr (.inl ⟨n, k, xs, rfl, hn, hf, hk0, hkl⟩)), fun h2 => by cases h2⟩
  have HFL : Hid (FL (doR (play rs) (rCu n k)) (A ++ (n, xs.take k.toNat) :: B)) := hide (by
    have := h.fls
    rw [hAB] at this
    have := this.set hlt hB2 (xs.take k.toNat)
    rw [do_cu, hxs]
    exact this)
  have HLN : Hid ((A ++ (n, xs.take k.toNat) :: B).length ≤ rs.length + 1) := hide (by
    have := h.few
    rw [hAB] at this
    simp at this ⊢
    omega)
  have HCUT : Hid (∀ z : World, (Instr.slice 9 (.string (str xs)) none (some (.int .i64 k)) none).run Tryz.prog z = .ok (.string (str (xs.take k.toNat))) z) := hide (fun z => cut_str xs k hk0 (by omega) z)
  clear hB hB2 hn hxs hAB0 hk0 hkl
  obtain ⟨YS, hYS⟩ : ∃ YS, xs.take k.toNat = YS := ⟨_, rfl⟩
  rw [hYS] at HFL HLN HCUT
  clear hYS
  obtain ⟨fa, fc, hfe⟩ := row_slice h.fk.row
  have HH := hide h
  have HL : Hid (R.l.length ≤ 1099511000000) := hide (by have h1 := h.few; have h2 := len_wt rs; omega)
  have hrl : R.qs.length = rs.length := by rw [← h.raw]; simp
  have HRL : Hid (R.qs.length ≤ 1099511000000) := hide (by have h2 := len_wt rs; omega)
  clear hrl
  have HFE := hide hfe
  have HAB := hide hAB
  have HA := hide hA
  have HLTA := hide hlt
  have HV := hide hv
  have hfind : ∀ (W : World), FkAt W r s R.fv R.qv R.l → Calls Tryz.prog 73 #[.pointer (some ⟨r, 0, none⟩), .string n] W fun e w' => e = .returned (.tuple #[.int .i64 (I : Int), .bool true]) ∧ Below W.heap.size W w' := fun W hW => by
    have := find_any r s R.fv R.qv R.l (play rs) n W hW h.fls HL.out
    rw [← hA, hI, hf] at this
    exact this
  have HFD := hide hfind
  clear h hAB hA hlt hv hfe hfind hwt
  go_enter Tryz.func62, Tryz.ntmps62
  go_wp2_with (refine step_box (cs := rwC 3 n (.slice none 0 0) k ByteArray.empty) rfl rfl ?_)
  intro w1 g3 hg3 hle3 hb1
  have D1 : Hid (DsR w w1 r s R R.fv R.l (rCu n k) (Value.slice none 0 0) g3) := hide (HH.out.ds hb1 hg3 hle3)
  have c1 : w1.cell? ⟨g3, 1, none⟩ = some (.string n) := D1.out.r1
  clear hg3 hle3 hb1
  go_wp2_with (go_at_call 73; refine (HFD.out _ D1.out.fk).mono ?_; rintro e w2 ⟨rfl, hb2⟩; have D2 := hide (D1.out.below hb2); have c0 : w2.cell? ⟨g3, 0, none⟩ = some (.int .i64 3) := D2.out.r0; clear c1 D1 hb2)
  clear HFD
  have D2' := D2
  rw [HAB.out] at D2'
  obtain ⟨g, cap, hfv, hcells⟩ := D2'.out.at'
  have HFV := hide hfv
  obtain ⟨L, hL⟩ : ∃ L, (A ++ (n, xs) :: B).length = L := ⟨_, rfl⟩
  rw [hL] at hfv
  have HIX : Hid (∀ z : World, (Instr.indexAt 100 (.slice (some ⟨g, 0, none⟩) L cap) (.int .i64 (I : Int))).run Tryz.prog z = .ok (.pointer (some ⟨g, I * 2, none⟩)) z) := hide (fun z => vw_at rFi g L cap I (by rw [← hL, ← hI]; simp) z)
  have HC1 : Hid (∀ z : World, Below w2.heap.size w2 z → z.cell? ⟨r, 1, none⟩ = some (.slice (some ⟨g, 0, none⟩) L cap)) := hide (fun z hz => by rw [← hfv]; exact (D2.out.below hz).c1)
  have HCB : Hid (∀ z : World, Below w2.heap.size w2 z → z.cell? ⟨g, I * 2 + 1, none⟩ = some (.string (str xs))) := hide (fun z hz => by rw [← hI]; exact (hcells z hz).2.1)
  have HFZ : Hid (∀ z : World, Below w2.heap.size w2 z → z.frozen? ⟨g, I * 2 + 1, none⟩ = false) := hide (fun z hz => by rw [← hI]; exact (hcells z hz).2.2.1)
  have HRG : Hid (∀ z : World, Below w2.heap.size w2 z → z.rangeAt g (I * 2) [.string n, .string (str xs)]) := hide (fun z hz => by rw [← hI]; exact (hcells z hz).2.2.2)
  have HLL := hide hL
  have HII := hide hI
  clear hfv hcells hL c0 hI
  have HCV : Hid (∀ z : World, Below w2.heap.size w2 z → z.cell? ⟨g3, 3, none⟩ = some (.int .i64 k)) := hide (fun z hz => (D2.out.below hz).r3)
  refine wp_region_noPanic ?_
  refine wp_region_U (q := 18) (S := fun z : World => Below w2.heap.size w2 z) (by kernel_rfl) ?_
  have Z0 := hide ((Below.refl w2.heap.size w2).drew)
  have hHeld := Z0.out
  refine takeU 18 0 69 (.pointer (some ⟨r, 0, none⟩)) hHeld rfl rfl (by kernel_rfl) (by kernel_rfl) (by kernel_rfl) (by kernel_rfl) (by kernel_rfl) (by kernel_rfl) (fun _ _ _ h => h) (Or.inl ⟨by rfl, fun w _ => by go_simp⟩) ?_
  simp only [Act.put, List.setIfInBounds_toArray, List.set_cons_zero, List.set_cons_succ]
  refine takeU 18 1 70 (.pointer (some ⟨r, 0, none⟩)) hHeld rfl rfl (by kernel_rfl) (by kernel_rfl) (by kernel_rfl) (by kernel_rfl) (by kernel_rfl) (by kernel_rfl) (fun _ _ _ h => h) (Or.inl ⟨by rfl, fun w _ => by go_simp⟩) ?_
  simp only [Act.put, List.setIfInBounds_toArray, List.set_cons_zero, List.set_cons_succ]
  refine takeU 18 2 71 (.pointer (some ⟨r, 1, none⟩)) hHeld rfl rfl (by kernel_rfl) (by kernel_rfl) (by kernel_rfl) (by kernel_rfl) (by kernel_rfl) (by kernel_rfl) (fun _ _ _ h => h) (Or.inl ⟨by rfl, fun w _ => by go_simp⟩) ?_
  simp only [Act.put, List.setIfInBounds_toArray, List.set_cons_zero, List.set_cons_succ]
  refine takeU 18 3 72 (.slice (some ⟨g, 0, none⟩) L cap) hHeld rfl rfl (by kernel_rfl) (by kernel_rfl) (by kernel_rfl) (by kernel_rfl) (by kernel_rfl) (by kernel_rfl) (fun _ _ _ h => h) (Or.inl ⟨by rfl, fun w hw => by have hw' : w.cell? ⟨r, 1, none⟩ = some (.slice (some ⟨g, 0, none⟩) L cap) := (fun hw => HC1.out _ hw) hw; go_simp⟩) ?_
  simp only [Act.put, List.setIfInBounds_toArray, List.set_cons_zero, List.set_cons_succ]
  refine takeU 18 4 73 (.int .i64 (I : Int)) hHeld rfl rfl (by kernel_rfl) (by kernel_rfl) (by kernel_rfl) (by kernel_rfl) (by kernel_rfl) (by kernel_rfl) (fun _ _ _ h => h) (Or.inl ⟨by rfl, fun w _ => by go_simp⟩) ?_
  simp only [Act.put, List.setIfInBounds_toArray, List.set_cons_zero, List.set_cons_succ]
  refine takeU 18 5 74 (.pointer (some ⟨r, 0, none⟩)) hHeld rfl rfl (by kernel_rfl) (by kernel_rfl) (by kernel_rfl) (by kernel_rfl) (by kernel_rfl) (by kernel_rfl) (fun _ _ _ h => h) (Or.inl ⟨by rfl, fun w _ => by go_simp⟩) ?_
  simp only [Act.put, List.setIfInBounds_toArray, List.set_cons_zero, List.set_cons_succ]
  refine takeU 18 6 75 (.pointer (some ⟨r, 0, none⟩)) hHeld rfl rfl (by kernel_rfl) (by kernel_rfl) (by kernel_rfl) (by kernel_rfl) (by kernel_rfl) (by kernel_rfl) (fun _ _ _ h => h) (Or.inl ⟨by rfl, fun w _ => by go_simp⟩) ?_
  simp only [Act.put, List.setIfInBounds_toArray, List.set_cons_zero, List.set_cons_succ]
  refine takeU 18 7 76 (.pointer (some ⟨r, 1, none⟩)) hHeld rfl rfl (by kernel_rfl) (by kernel_rfl) (by kernel_rfl) (by kernel_rfl) (by kernel_rfl) (by kernel_rfl) (fun _ _ _ h => h) (Or.inl ⟨by rfl, fun w _ => by go_simp⟩) ?_
  simp only [Act.put, List.setIfInBounds_toArray, List.set_cons_zero, List.set_cons_succ]
  refine takeU 18 8 77 (.slice (some ⟨g, 0, none⟩) L cap) hHeld rfl rfl (by kernel_rfl) (by kernel_rfl) (by kernel_rfl) (by kernel_rfl) (by kernel_rfl) (by kernel_rfl) (fun _ _ _ h => h) (Or.inl ⟨by rfl, fun w hw => by have hw' : w.cell? ⟨r, 1, none⟩ = some (.slice (some ⟨g, 0, none⟩) L cap) := (fun hw => HC1.out _ hw) hw; go_simp⟩) ?_
  simp only [Act.put, List.setIfInBounds_toArray, List.set_cons_zero, List.set_cons_succ]
  refine takeU 18 9 78 (.int .i64 (I : Int)) hHeld rfl rfl (by kernel_rfl) (by kernel_rfl) (by kernel_rfl) (by kernel_rfl) (by kernel_rfl) (by kernel_rfl) (fun _ _ _ h => h) (Or.inl ⟨by rfl, fun w _ => by go_simp⟩) ?_
  simp only [Act.put, List.setIfInBounds_toArray, List.set_cons_zero, List.set_cons_succ]
  refine takeU 18 10 79 (.pointer (some ⟨g, I * 2, none⟩)) hHeld rfl rfl (by kernel_rfl) (by kernel_rfl) (by kernel_rfl) (by kernel_rfl) (by kernel_rfl) (by kernel_rfl) (fun _ _ _ h => h) (Or.inl ⟨by rfl, fun w h => run_op rfl (HIX.out w)⟩) ?_
  simp only [Act.put, List.setIfInBounds_toArray, List.set_cons_zero, List.set_cons_succ]
  refine takeU 18 11 80 (.pointer (some ⟨g, I * 2 + 1, none⟩)) hHeld rfl rfl (by kernel_rfl) (by kernel_rfl) (by kernel_rfl) (by kernel_rfl) (by kernel_rfl) (by kernel_rfl) (fun _ _ _ h => h) (Or.inl ⟨by rfl, fun w _ => by go_simp⟩) ?_
  simp only [Act.put, List.setIfInBounds_toArray, List.set_cons_zero, List.set_cons_succ]
  refine takeU 18 12 81 (.string (str xs)) hHeld rfl rfl (by kernel_rfl) (by kernel_rfl) (by kernel_rfl) (by kernel_rfl) (by kernel_rfl) (by kernel_rfl) (fun _ _ _ h => h) (Or.inl ⟨by rfl, fun w hw => by have hw' : w.cell? ⟨g, (I * 2 + 1), none⟩ = some (.string (str xs)) := (fun hw => HCB.out _ hw) hw; go_simp⟩) ?_
  simp only [Act.put, List.setIfInBounds_toArray, List.set_cons_zero, List.set_cons_succ]
  refine takeU 18 13 82 (.pointer (some ⟨g3, 3, none⟩)) hHeld rfl rfl (by kernel_rfl) (by kernel_rfl) (by kernel_rfl) (by kernel_rfl) (by kernel_rfl) (by kernel_rfl) (fun _ _ _ h => h) (Or.inl ⟨by rfl, fun w _ => by go_simp⟩) ?_
  simp only [Act.put, List.setIfInBounds_toArray, List.set_cons_zero, List.set_cons_succ]
  refine takeU 18 14 83 (.int .i64 k) hHeld rfl rfl (by kernel_rfl) (by kernel_rfl) (by kernel_rfl) (by kernel_rfl) (by kernel_rfl) (by kernel_rfl) (fun _ _ _ h => h) (Or.inl ⟨by rfl, fun w hw => by have hw' : w.cell? ⟨g3, 3, none⟩ = some (.int .i64 k) := (fun hw => HCV.out _ hw) hw; go_simp⟩) ?_
  simp only [Act.put, List.setIfInBounds_toArray, List.set_cons_zero, List.set_cons_succ]
  refine takeU 18 15 84 (.string (str YS)) hHeld rfl rfl (by kernel_rfl) (by kernel_rfl) (by kernel_rfl) (by kernel_rfl) (by kernel_rfl) (by kernel_rfl) (fun _ _ _ h => h) (Or.inl ⟨by rfl, fun w h => run_op rfl (HCUT.out w)⟩) ?_
  simp only [Act.put, List.setIfInBounds_toArray, List.set_cons_zero, List.set_cons_succ]
  have hix := HIX.out
  refine wpAnyU_ready (rs := [16]) (by kernel_rfl) (by simp) (AllReadyU.cons rfl (fun K hK => ?_) AllReadyU.nil)
  rw [if_pos (by rfl)]
  go_simp
  refine hK.out _ _ (fun _ => Z0.out) ?_
  have hHeld := Z0.out
  clear hK K
  refine takeU 18 17 86 (.pointer (some ⟨g, I * 2 + 1, none⟩)) hHeld rfl rfl (by kernel_rfl) (by kernel_rfl) (by kernel_rfl) (by kernel_rfl) (by kernel_rfl) (by kernel_rfl) (fun _ _ _ h => h) (Or.inl ⟨by rfl, fun w _ => by go_simp⟩) ?_
  simp only [Act.put, List.setIfInBounds_toArray, List.set_cons_zero, List.set_cons_succ]
  have k1 := HCB.out _ Z0.out
  have k2 := HFZ.out _ Z0.out
  refine wpAnyU_ready (rs := [18]) (by kernel_rfl) (by simp) (AllReadyU.cons rfl (fun K hK => ?_) AllReadyU.nil)
  rw [if_pos (by rfl)]
  go_simp
  refine hK.out _ _ (fun h => absurd h (by decide)) ?_
  clear hK K
  refine wpAnyU_done (by kernel_rfl) ?_ _
  refine NoPanic.normal ?_
  have D6 : Hid (DsR w ((w2.setCell ⟨g, I * 2 + 1, none⟩ (.string (str (YS)))).drew) r s R R.fv (A ++ (n, YS) :: B) (rCu n k) (Value.slice none 0 0) g3) := hide (by
    have := D2'.out.setF HFV.out (YS)
    rw [HII.out] at this
    exact this.below ((Below.refl _ _).drew))
  revert D6
  generalize (w2.setCell ⟨g, I * 2 + 1, none⟩ (.string (str (YS)))).drew = w6
  intro D6
  clear k1 k2 hix hHeld
  go_wp2_with fail
  have HRE5 : Hid (∃ q1 q2, R.qv = .slice q1 R.qs.length q2) := hide (by obtain ⟨q1, q2, hq⟩ := row_slice HH.out.row; exact ⟨q1, q2, hq⟩)
  obtain ⟨L5, hL5⟩ : ∃ L5, (R.qs ++ [(rCu n k, (Value.slice none 0 0))]).length = L5 := ⟨_, rfl⟩
  have HL5 := hide hL5
  clear hL5
  refine wp_region_noPanic ?_
  refine wp_region_U (q := 10) (S := fun z : World => z.cell? ⟨r, 2, none⟩ = some R.qv ∧ z.rangeAt g3 0 (rwC 3 n (.slice none 0 0) k ByteArray.empty)) (by kernel_rfl) ?_
  have Z0 := hide ((Below.refl w6.heap.size w6).drew)
  have E0 := hide (D6.out.below Z0.out)
  have HIR : Hid ((Tryz.prog.info? 111).map (·.size) = some (rwC 3 n (.slice none 0 0) k ByteArray.empty).length) := hide (by rw [wRw.size]; rfl)
  have gb0 : Blk w6.drew g3 111 (rwC 3 n (.slice none 0 0) k ByteArray.empty) := E0.out.gb
  have hHeld : w6.drew.cell? ⟨r, 2, none⟩ = some R.qv ∧ w6.drew.rangeAt g3 0 (rwC 3 n (.slice none 0 0) k ByteArray.empty) := ⟨E0.out.c2, gb0.range 0 _ (by simp)⟩
  clear gb0
  refine takeU 10 0 168 (.pointer (some ⟨r, 0, none⟩)) hHeld rfl rfl (by kernel_rfl) (by kernel_rfl) (by kernel_rfl) (by kernel_rfl) (by kernel_rfl) (by kernel_rfl) (fun _ _ _ h => h) (Or.inl ⟨by rfl, fun w _ => by go_simp⟩) ?_
  simp only [Act.put, List.setIfInBounds_toArray, List.set_cons_zero, List.set_cons_succ]
  refine takeU 10 1 169 (.pointer (some ⟨r, 0, none⟩)) hHeld rfl rfl (by kernel_rfl) (by kernel_rfl) (by kernel_rfl) (by kernel_rfl) (by kernel_rfl) (by kernel_rfl) (fun _ _ _ h => h) (Or.inl ⟨by rfl, fun w _ => by go_simp⟩) ?_
  simp only [Act.put, List.setIfInBounds_toArray, List.set_cons_zero, List.set_cons_succ]
  refine takeU 10 2 170 (.pointer (some ⟨r, 0, none⟩)) hHeld rfl rfl (by kernel_rfl) (by kernel_rfl) (by kernel_rfl) (by kernel_rfl) (by kernel_rfl) (by kernel_rfl) (fun _ _ _ h => h) (Or.inl ⟨by rfl, fun w _ => by go_simp⟩) ?_
  simp only [Act.put, List.setIfInBounds_toArray, List.set_cons_zero, List.set_cons_succ]
  refine takeU 10 3 171 (.pointer (some ⟨r, 2, none⟩)) hHeld rfl rfl (by kernel_rfl) (by kernel_rfl) (by kernel_rfl) (by kernel_rfl) (by kernel_rfl) (by kernel_rfl) (fun _ _ _ h => h) (Or.inl ⟨by rfl, fun w _ => by go_simp⟩) ?_
  simp only [Act.put, List.setIfInBounds_toArray, List.set_cons_zero, List.set_cons_succ]
  refine takeU 10 4 172 (R.qv) hHeld rfl rfl (by kernel_rfl) (by kernel_rfl) (by kernel_rfl) (by kernel_rfl) (by kernel_rfl) (by kernel_rfl) (fun _ _ _ h => h) (Or.inl ⟨by rfl, fun w hw => by have hw' : w.cell? ⟨r, 2, none⟩ = some (R.qv) := (fun h => h.1) hw; go_simp⟩) ?_
  simp only [Act.put, List.setIfInBounds_toArray, List.set_cons_zero, List.set_cons_succ]
  refine takeU 10 5 173 (.agg (rwC 3 n (.slice none 0 0) k ByteArray.empty).toArray) hHeld rfl rfl (by kernel_rfl) (by kernel_rfl) (by kernel_rfl) (by kernel_rfl) (by kernel_rfl) (by kernel_rfl) (fun _ _ _ h => h) (yieldsIf_load_mid (by rfl) _ _ rfl g3 0 rfl _ _ (fun w h => h.2) Tryz.underlying111 rfl HIR.out) ?_
  simp only [Act.put, List.setIfInBounds_toArray, List.set_cons_zero, List.set_cons_succ]
  refine wpAnyU_ready (rs := [6]) (by kernel_rfl) (by simp) (AllReadyU.cons rfl (fun K hK => ?_) AllReadyU.nil)
  rw [if_pos (by rfl)]
  refine wp_oneR (r := rCu n k) (v := (Value.slice none 0 0)) ⟨_, _, _, rfl⟩ rfl ?_
  intro w4 u4 hu4 hb4
  have E4 := hide (E0.out.below hb4)
  have HU4 := hide hu4
  have gb0 : Blk w4 g3 111 (rwC 3 n (.slice none 0 0) k ByteArray.empty) := E4.out.gb
  have hH4 : w4.cell? ⟨r, 2, none⟩ = some R.qv ∧ w4.rangeAt g3 0 (rwC 3 n (.slice none 0 0) k ByteArray.empty) := ⟨E4.out.c2, gb0.range 0 _ (by simp)⟩
  clear gb0
  refine hK.out _ _ (fun _ => hH4) ?_
  have hHeld := hH4
  clear hK K
  clear hu4 hb4 hH4
  simp only [Act.put]
  refine wpAnyU_ready (rs := [7]) (by kernel_rfl) (by simp) (AllReadyU.cons rfl (fun K hK => ?_) AllReadyU.nil)
  rw [if_pos (by rfl)]
  refine wp_appV rRw rfl rfl E4.out.row HU4.out (rwsC_one _ (fun x hx => by simp at hx; subst hx; exact ⟨_, _, _, rfl⟩)) (by have := HRL.out; omega) (Nat.zero_le _) ?_
  intro qv5 w5 hrow5 hgr5 hat5
  have hne5 : ∀ k, R.qv.ownBlock = some k → k ≠ r := fun k hk e => by
    obtain ⟨cs, hc⟩ := row_lies E4.out.row hk
    exact hc.apart E4.out.fk.blk (by decide) e
  have hnf5 : ∀ k, R.fv.ownBlock = some k → R.qv.ownBlock ≠ some k := fun k hk e => by
    obtain ⟨cs, hc⟩ := row_lies E4.out.row e
    obtain ⟨cs', hc'⟩ := row_lies E4.out.fk.row hk
    exact hc.apart hc' (by decide) rfl
  have DK5 : Hid (Blk w5 r 103 (rkC s R.fv R.qv)) := hide (E4.out.fk.blk.same (hgr5.block r E4.out.fk.blk.lt (fun e => hne5 r e.symm rfl)))
  have G5 : Hid (Blk w5 g3 111 (rwC 3 n (.slice none 0 0) k ByteArray.empty)) := hide (Blk.same E4.out.gb (hgr5.block g3 E4.out.gb.lt (fun e => E4.out.off e.symm)))
  have F5 : Hid (w5.ownsRow 0 129 2 R.fv (A ++ (n, YS) :: B).length (filC ((A ++ (n, YS) :: B)))) := hide (row_same E4.out.fk.row (fun k hk => by
    obtain ⟨cs, hc⟩ := row_lies E4.out.fk.row hk
    exact hgr5.block k hc.lt (fun e => hnf5 k hk e.symm)))
  have CH5 : Hid (Chs (R.own r) w w5) := hide (E4.out.chs.thenGrown hgr5 (fun k hk => .inl (.inr (.inr hk))))
  have LQ5 : Hid (∀ k, qv5.ownBlock = some k → R.own r k ∨ w.heap.size ≤ k) := hide (fun k hk => by
    rcases hat5 with e | e
    · exact .inl (.inr (.inr (by rw [e] at hk; exact hk)))
    · rw [e] at hk
      injection hk with hk
      have := E4.out.chs.size
      right
      omega)
  have ROW5 : Hid (w5.ownsRow 0 111 5 qv5 L5 (rwsC (R.qs ++ [(rCu n k, (Value.slice none 0 0))]))) := hide (by rw [rwsC_app, ← HL5.out, List.length_append]; exact hrow5)
  obtain ⟨qa5, qc5, hqe5⟩ := row_slice ROW5.out
  subst hqe5
  have k1 : w5.cell? ⟨r, 2, none⟩ = some R.qv := by rw [DK5.out.cell]; rfl
  have k2 : w5.frozen? ⟨r, 2, none⟩ = false := DK5.out.free 2
  have hH5 : w5.cell? ⟨r, 2, none⟩ = some R.qv ∧ w5.rangeAt g3 0 (rwC 3 n (.slice none 0 0) k ByteArray.empty) := ⟨k1, G5.out.range 0 _ (by simp)⟩
  refine hK.out _ _ (fun _ => hH5) ?_
  have hHeld := hH5
  clear hK K
  clear hrow5 hgr5 hat5 hne5 hnf5
  simp only [Act.put]
  refine wpAnyU_ready (rs := [8]) (by kernel_rfl) (by simp) (AllReadyU.cons rfl (fun K hK => ?_) AllReadyU.nil)
  rw [if_pos (by rfl)]
  go_simp
  refine hK.out _ _ (fun _ => hH5) ?_
  have hHeld := hH5
  clear hK K
  clear hH5
  refine takeU 10 9 177 (.pointer (some ⟨r, 2, none⟩)) hHeld rfl rfl (by kernel_rfl) (by kernel_rfl) (by kernel_rfl) (by kernel_rfl) (by kernel_rfl) (by kernel_rfl) (fun _ _ _ h => h) (Or.inl ⟨by rfl, fun w _ => by go_simp⟩) ?_
  simp only [Act.put, List.setIfInBounds_toArray, List.set_cons_zero, List.set_cons_succ]
  refine wpAnyU_ready (rs := [10]) (by kernel_rfl) (by simp) (AllReadyU.cons rfl (fun K hK => ?_) AllReadyU.nil)
  rw [if_pos (by rfl)]
  go_simp
  refine hK.out _ _ (fun h => absurd h (by decide)) ?_
  clear hK K
  refine wpAnyU_done (by kernel_rfl) ?_ _
  refine NoPanic.normal ?_
  have B6 := But.setCell w5 r 2 (.slice qa5 L5 qc5)
  have FK6 : FkAt (w5.setCell ⟨r, 2, none⟩ (.slice qa5 L5 qc5)) r s R.fv (.slice qa5 L5 qc5) ((A ++ (n, YS) :: B)) := ⟨DK5.out.set 2 _, row_same F5.out (fun k hk => B6.block k (fun e => by
    obtain ⟨cs, hc⟩ := row_lies F5.out hk
    exact hc.apart DK5.out (by decide) e))⟩
  have hres : RoR w (w5.setCell ⟨r, 2, none⟩ (.slice qa5 L5 qc5)) r s R (rs ++ [rCu n k]) (Value.slice none 0 0) := DsR.done HH.out HLR.out HV.out (by exact HFL.out) HLN.out FK6 (by rw [HL5.out]; exact row_same ROW5.out (fun k hk => B6.block k (fun e => by
    obtain ⟨cs, hc⟩ := row_lies ROW5.out hk
    exact hc.apart DK5.out (by decide) e))) (CH5.out.thenBut B6 (.inl (.inl rfl))) D6.out.lie LQ5.out rfl
  revert hres
  generalize w5.setCell ⟨r, 2, none⟩ (.slice qa5 L5 qc5) = w6
  intro hres
  have HRES := hide hres
  clear hres
  go_wp2
  go_end0
  exact ⟨rfl, HRES.out⟩
end

end Go.Proofs.YtninkkdbcgadpaaGreatDoor
