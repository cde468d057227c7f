/- WriteBack: what the document's parser tells of the text are the tokens, or the text is too long. -/
import Derived.Test.YthmidlmknkbdaaaDoorLive4
import Derived.Test.YthmidlmknkbdaaaDoorWV
import Derived.Test.YthmidlmknkbdaaaDoorWhole
import Derived.Test.YthmidlmknkbdaaaDoorWK
namespace Go.Proofs.YthmidlmknkbdaaaDoor
open Go.RowKit

/-- What a call leans on. -/
def EnvW (w : World) : Prop := Xm.Env w ∧ 4 ≤ w.heap.size
theorem EnvW.below {w w' : World} {n : Nat} (h : EnvW w) (hb : Below n w w') (hn : 4 ≤ n) : EnvW w' := ⟨h.1.below hb hn, Nat.le_trans h.2 hb.size⟩
theorem liveW {w : World} (h : EnvW w) : Calls Tryd.prog 8 #[] w fun e w' => e = .returned (.bool true) ∧ Below w.heap.size w w' := live4_any w h.1.1 h.1.2.1
theorem print_lenW {ts : List Tok} (h : RightT ts) : (printT ts).length ≤ 4480000 := by
  have h1 := printTo_le h.2.1 ts.length
  have h2 := h.1
  unfold printT
  omega
set_option maxRecDepth 100000 in
set_option maxHeartbeats 8000000 in
theorem writeBack_any (ao : Option Addr) (cap : Nat) (us : List Tok) (av : Nat → Option Addr × Nat) (w : World) (hc : us.length ≤ cap) (h1 : TokMem w.heap.size w ao us av) (hE : EnvW w) :
    Calls Tryd.prog 3 #[.slice ao us.length cap] w fun e w' => e = .returned (.bool true) ∧ Below w.heap.size w w' := by
  have f1 := few_any ao cap us w hc h1.1
  have g1 := h1.take 70
  have hl70 : (us.take 70).length ≤ 70 := by rw [List.length_take]; omega
  obtain ⟨ts, hxs⟩ : ∃ ts, us.take 70 = ts := ⟨_, rfl⟩
  rw [hxs] at f1 g1 hl70
  have hpr := print_any ao cap ts av w g1 hE.1.1 hE.1.2.1
  have h4 := hE.2
  have HF := hide f1
  have HG := hide (And.intro g1 (And.intro hE hpr))
  obtain ⟨n, hn⟩ : ∃ n, ts.length = n := ⟨_, rfl⟩
  rw [hn] at HF HG hl70
  have HN := hide hn
  clear h1 hc f1 g1 hxs hE hpr hn
  by_cases hR : RightT ts
  · by_cases hW : WholeT ts
    · have hlen := print_lenW hR
      obtain ⟨X, hX⟩ : ∃ X : ByteArray, ⟨(printT ts).toArray⟩ = X := ⟨_, rfl⟩
      have hXl : X.data.toList = printT ts := by rw [← hX]
      have hXs : X.size = (printT ts).length := by rw [← hXl]; exact Array.length_toList.symm
      have HX := hide (And.intro hX (And.intro hXl (And.intro hXs (And.intro hlen (And.intro hR hW)))))
      clear hX hXl hXs hlen hR hW
      go_enter Tryd.func3, Tryd.ntmps3
      go_wp2_with fail
      refine HF.out.mono ?_
      rintro e w0 ⟨rfl, hw0⟩
      rw [hw0]
      clear hw0 w0
      go_wp2_with fail
      refine HG.out.2.2.mono ?_
      rintro e w1 ⟨⟨_, he⟩ | ⟨hn, _⟩, b1⟩
      rotate_left
      · exact absurd HX.out.2.2.2.2.1 hn
      rw [HX.out.1] at he
      rw [he]
      clear he
      have hT1 := (HG.out.1.below b1).mono b1.size
      have hwh := whole_any ao cap ts av w1 hT1 (HG.out.2.1.below b1 h4).1.1
      rw [HN.out] at hwh
      have H1 := hide (And.intro b1 hwh)
      clear b1 hT1 hwh
      go_wp2_with fail
      refine H1.out.2.mono ?_
      rintro e w2 ⟨⟨_, rfl⟩ | ⟨hn, _⟩, b2⟩
      rotate_left
      · exact absurd HX.out.2.2.2.2.2 hn
      have B2 : Below w.heap.size w w2 := H1.out.1.trans (b2.mono H1.out.1.size)
      have H2 := hide B2
      have s2 := B2.size
      clear b2 B2
      have hnew := Xm.rfNew_any w2.heap.size w2 (Nat.le_refl _)
      have HNW := hide hnew
      clear hnew
      go_wp2_with fail
      refine HNW.out.mono ?_
      rintro e w3 ⟨rfl, hP3, b3⟩
      obtain ⟨V4, cap4, cv4, hV4, z4, b4⟩ := Xm.to_bytes X w3
      have hP4 := hP3.below b4
      have b24 : Below w2.heap.size w2 V4 := b3.trans (b4.mono b3.size)
      have B4 : Below w.heap.size w V4 := H2.out.trans (b24.mono s2)
      have hE4 := HG.out.2.1.below B4 h4
      have hp3 := hP3.lt
      obtain ⟨cs, fr, hcs, hcell⟩ := hV4
      have hB4 : Xm.BytesF V4 w2.heap.size (some ⟨w3.heap.size, 0, none⟩) X.data.toList := fun j c hj => ⟨w3.heap.size, 0, rfl, (Array.getElem?_eq_some_iff.1 hcs).1, by omega, by simp [World.cell?, hcs, hcell j c hj]⟩
      have hfe := Xm.rfFeed_any w2.heap.size w2.heap.size Xm.st0 _ _ _ cap4 X.data.toList V4 hP4 Xm.inv0 (fun _ => by simp [Xm.st0]) rfl hE4.1.1 (by omega) hB4 (by rw [HX.out.2.1]; have := HX.out.2.2.2.1; omega) (by rw [HX.out.2.1]; exact Xm.along_print HX.out.2.2.2.2.2)
      rw [show X.data.toList.length = X.size from Array.length_toList, HX.out.2.1] at hfe
      have H4 := hide (And.intro hfe (And.intro B4 (And.intro hP4 b24)))
      clear hP3 b3 z4 b4 hP4 b24 B4 hE4 hB4 hfe hcs hcell
      have hsz : X.size ≤ 8000000 := by have := HX.out.2.2.2.1; have := HX.out.2.2.1; omega
      rcases Xm.feed_back HX.out.2.2.2.2.2 with ⟨st', hfb, hsh⟩ | ⟨hbr, hlong⟩
      · have HFB := hide (And.intro hfb hsh)
        clear hfb hsh
        go_wp2_with fail
        refine H4.out.1.mono ?_
        rintro e w5 (⟨v5, l5, vw5, vo5, rfl, q1, q2, q3, q4, q5⟩ | ⟨q1, _⟩)
        rotate_left
        · rw [HFB.out.1] at q1
          have h := HFB.out.2.2.2.2
          rw [h] at q1
          cases q1
        rw [HFB.out.1] at q1 q4
        have B5 : Below w.heap.size w w5 := H4.out.2.1.trans (q5.below.mono s2)
        have hl5 : l5.length = n := by
          have h := congrArg List.length q1
          rw [List.length_map] at h
          rw [h, HN.out]
        obtain ⟨ga5, gc5, rfl⟩ := own_shape q3.1
        obtain ⟨ao5, cap5, e5, hT5⟩ := tokMem_own q3 (by omega)
        cases e5
        rw [q1] at hT5
        have hlv := liveW (HG.out.2.1.below B5 h4)
        have H5 := hide (And.intro hlv (And.intro B5 (And.intro hT5 q4)))
        have s5 := B5.size
        rw [hl5]
        clear q1 q2 q3 q4 q5 B5 hl5 hT5 hlv
        go_wp2_with fail
        refine H5.out.1.mono ?_
        rintro e w6 ⟨rfl, b6⟩
        have B6 : Below w.heap.size w w6 := H5.out.2.1.trans (b6.mono s5)
        have hsm := same_any ao ga5 cap gc5 ts ts av (avOf l5) w6 ((HG.out.1.below B6).mono B6.size) ((H5.out.2.2.1.below b6).mono b6.size)
        rw [HN.out] at hsm
        have H6 := hide (And.intro hsm (And.intro B6 (H5.out.2.2.2.below b6)))
        have s6 := B6.size
        clear hsm B6 b6
        go_wp2_with fail
        refine H6.out.1.mono ?_
        rintro e w7 ⟨⟨_, rfl⟩ | ⟨hn, _⟩, b7⟩
        rotate_left
        · exact absurd trivial hn
        have hP7 := H6.out.2.2.below b7
        have B7 : Below w.heap.size w w7 := H6.out.2.1.trans (b7.mono s6)
        have hdp := Xm.rfDepth_any _ _ _ _ _ w7 hP7
        have hlf := Xm.rfLeft_any _ _ _ _ _ w7 hP7
        rw [HFB.out.2.2.2.1] at hdp
        rw [HFB.out.2.1] at hlf
        have H7 := hide (And.intro hdp (And.intro hlf B7))
        clear hP7 B7 hdp hlf b7
        go_wp2_with fail
        refine H7.out.1.mono ?_
        rintro e w8 ⟨rfl, hw8⟩
        rw [hw8]
        clear hw8 w8
        go_wp2_with fail
        refine H7.out.2.1.mono ?_
        rintro e w8 ⟨rfl, hw8⟩
        rw [hw8]
        clear hw8 w8
        go_wp2_with fail
        go_ret
        exact ⟨rfl, H7.out.2.2⟩
      · have HFB := hide hbr
        have hl : (512 : Int) < X.size := by rw [HX.out.2.2.1]; omega
        clear hbr hlong
        go_wp2_with fail
        refine H4.out.1.mono ?_
        rintro e w5 (⟨v5, l5, vw5, vo5, _, _, q2, _⟩ | ⟨_, ⟨v5, rfl⟩, q5⟩)
        · rw [HFB.out] at q2
          cases q2
        have B5 : Below w.heap.size w w5 := H4.out.2.1.trans (q5.below.mono s2)
        have hlv := liveW (HG.out.2.1.below B5 h4)
        have H5 := hide (And.intro hlv B5)
        clear q5 B5 hlv
        go_wp2_with fail
        refine H5.out.1.mono ?_
        rintro e w6 ⟨rfl, b6⟩
        have H6 := hide (H5.out.2.trans (b6.mono H5.out.2.size))
        clear b6
        go_wp2_with fail
        go_ret
        exact ⟨rfl, H6.out⟩
    · have HW := hide (And.intro hR hW)
      clear hR hW
      go_enter Tryd.func3, Tryd.ntmps3
      go_wp2_with fail
      refine HF.out.mono ?_
      rintro e w0 ⟨rfl, hw0⟩
      rw [hw0]
      clear hw0 w0
      go_wp2_with fail
      refine HG.out.2.2.mono ?_
      rintro e w1 ⟨⟨_, he⟩ | ⟨hn, _⟩, b1⟩
      rotate_left
      · exact absurd HW.out.1 hn
      obtain ⟨X, hX⟩ : ∃ X : ByteArray, ⟨(printT ts).toArray⟩ = X := ⟨_, rfl⟩
      rw [hX] at he
      rw [he]
      clear he hX
      have hT1 := (HG.out.1.below b1).mono b1.size
      have hwh := whole_any ao cap ts av w1 hT1 (HG.out.2.1.below b1 h4).1.1
      rw [HN.out] at hwh
      have H1 := hide (And.intro b1 hwh)
      clear b1 hT1 hwh
      go_wp2_with fail
      refine H1.out.2.mono ?_
      rintro e w2 ⟨⟨hn, _⟩ | ⟨_, rfl⟩, b2⟩
      · exact absurd hn HW.out.2
      have B2 : Below w.heap.size w w2 := H1.out.1.trans (b2.mono H1.out.1.size)
      have hlv := liveW (HG.out.2.1.below B2 h4)
      have H2 := hide (And.intro hlv B2)
      clear b2 B2 hlv
      go_wp2_with fail
      refine H2.out.1.mono ?_
      rintro e w3 ⟨rfl, b3⟩
      have H3 := hide (H2.out.2.trans (b3.mono H2.out.2.size))
      clear b3
      go_wp2_with fail
      go_ret
      exact ⟨rfl, H3.out⟩
  · have HR := hide hR
    clear hR
    go_enter Tryd.func3, Tryd.ntmps3
    go_wp2_with fail
    refine HF.out.mono ?_
    rintro e w0 ⟨rfl, hw0⟩
    rw [hw0]
    clear hw0 w0
    go_wp2_with fail
    refine HG.out.2.2.mono ?_
    rintro e w1 ⟨⟨hn, _⟩ | ⟨_, rfl⟩, b1⟩
    · exact absurd hn HR.out
    have hlv := liveW (HG.out.2.1.below b1 h4)
    have H2 := hide (And.intro hlv b1)
    clear b1 hlv
    go_wp2_with fail
    refine H2.out.1.mono ?_
    rintro e w3 ⟨rfl, b3⟩
    have H3 := hide (H2.out.2.trans (b3.mono H2.out.2.size))
    clear b3
    go_wp2_with fail
    go_ret
    exact ⟨rfl, H3.out⟩
end Go.Proofs.YthmidlmknkbdaaaDoor
