/- What all lean on. -/
import Derived.Test.YtpknifioflagaaaDoorSmall
import Derived.Test.YtpknifioflagaaaDoorToks
